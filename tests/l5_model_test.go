package tests

import (
	"cmp"
	"fmt"
	"slices"

	"loop.example/changeringer/impl"
)

// modelCpu is chapter 5 written apart from the program: the queues and the monitors are not kept but found from the
// processes, each of which knows where it stands and since when.
type modelCpu struct {
	procs []modelCtx
	cells [3]int
	said  []impl.Say
	ran   []int
	picks []int
	gaps  []int
	begun int
	used  int
	clock int
}

// modelCtx stands somewhere: "ready", at a "line", at a "sign" or at its "end".
type modelCtx struct {
	code   []impl.Ins
	regs   [3]int
	pc     int
	room   int
	inside bool
	on     int
	back   bool
	stands string
	since  int
}

// modelCodes is the code of each process.
func modelCodes(p [][]impl.Stmt) [][]impl.Ins {
	var codes [][]impl.Ins
	for _, process := range p {
		codes = append(codes, append(modelCode(process), impl.Ins{Op: impl.InsEnd}))
	}
	return codes
}

func newModelCpu(codes [][]impl.Ins, gaps []int) *modelCpu {
	m := &modelCpu{gaps: gaps}
	for who, code := range codes {
		m.procs = append(m.procs, modelCtx{code: code, room: -1})
		m.moveTo(who, "ready")
	}
	return m
}

// moveTo puts a process behind all that stand there.
func (m *modelCpu) moveTo(who int, where string) {
	m.clock++
	m.procs[who].stands, m.procs[who].since = where, m.clock
}

// goal is the monitor that a process at a line wants.
func (p modelCtx) goal() int {
	if p.back {
		return p.room
	}
	return p.code[p.pc].A
}

// standing is who fulfils that, the one that stands there longest first.
func (m *modelCpu) standing(holds func(modelCtx) bool) []int {
	var out []int
	for who, p := range m.procs {
		if holds(p) {
			out = append(out, who)
		}
	}
	slices.SortFunc(out, func(a, b int) int { return cmp.Compare(m.procs[a].since, m.procs[b].since) })
	return out
}

func (m *modelCpu) ready() []int {
	return m.standing(func(p modelCtx) bool { return p.stands == "ready" })
}

func (m *modelCpu) line(room int) []int {
	return m.standing(func(p modelCtx) bool { return p.stands == "line" && p.goal() == room })
}

func (m *modelCpu) sign(a int) []int {
	return m.standing(func(p modelCtx) bool { return p.stands == "sign" && p.on == a })
}

func (m *modelCpu) holder(room int) int {
	return slices.IndexFunc(m.procs, func(p modelCtx) bool { return p.inside && p.room == room })
}

// letIn is called for a process that wants into a monitor that is free.
func (m *modelCpu) letIn(who int) {
	p := &m.procs[who]
	room := p.goal()
	p.pc += 1 - oneIf(p.back)
	p.room, p.inside, p.back = room, true, false
	m.picks = append(m.picks, who)
}

// handOn is called when nobody is in a monitor any more.
func (m *modelCpu) handOn(room int) {
	if line := m.line(room); len(line) > 0 {
		m.letIn(line[0])
		m.moveTo(line[0], "ready")
	}
}

// step executes an instruction of the first that is ready, and has the timer look at it.
func (m *modelCpu) step() {
	who := m.ready()[0]
	i := m.procs[who].code[m.procs[who].pc]
	m.ran = append(m.ran, who)
	m.execute(who, i)
	m.used++
	ready := m.ready()
	stays := i.Op != impl.InsYield && len(ready) > 0 && ready[0] == who
	if stays && m.used < m.gap() {
		return
	}
	if stays {
		m.moveTo(who, "ready")
	}
	m.begun, m.used = m.begun+1, 0
}

func (m *modelCpu) gap() int { return m.gaps[m.begun%len(m.gaps)] }

func (m *modelCpu) execute(who int, i impl.Ins) {
	p := &m.procs[who]
	switch i.Op {
	case impl.InsJump:
		p.pc = i.N
		return
	case impl.InsEnd:
		m.moveTo(who, "end")
		return
	case impl.InsEnter:
		if m.holder(i.A) < 0 {
			m.letIn(who)
		} else {
			m.moveTo(who, "line")
		}
		return
	}
	m.picks = append(m.picks, who)
	p.pc++
	switch i.Op {
	case impl.InsNum:
		p.regs[i.A] = i.N
	case impl.InsDo:
		p.regs[i.A] = combine(i.N, p.regs[i.A], p.regs[i.B])
	case impl.InsLoad:
		p.regs[i.A] = m.cells[i.B]
	case impl.InsStore:
		m.cells[i.A] = p.regs[i.B]
	case impl.InsSay:
		m.said = append(m.said, impl.Say{Who: who, N: p.regs[i.A]})
	case impl.InsSkip:
		if p.regs[i.A] == 0 {
			p.pc = i.N
		}
	case impl.InsLeave:
		p.room, p.inside = -1, false
		m.handOn(i.A)
	case impl.InsWait:
		p.inside, p.on = false, i.A
		m.moveTo(who, "sign")
		m.handOn(p.room)
	case impl.InsSignal:
		if queue := m.sign(i.A); len(queue) > 0 {
			m.wake(queue[0])
		}
	case impl.InsYield:
		m.moveTo(who, "ready")
	}
}

func (m *modelCpu) wake(who int) {
	p := &m.procs[who]
	p.on, p.back = 0, true
	if m.holder(p.room) >= 0 {
		m.moveTo(who, "line")
		return
	}
	m.letIn(who)
	m.moveTo(who, "ready")
}

func (m *modelCpu) how() int {
	if len(m.ready()) > 0 {
		return impl.CpuFuel
	}
	if slices.ContainsFunc(m.procs, func(p modelCtx) bool { return p.stands != "end" }) {
		return impl.CpuStuck
	}
	return impl.CpuDone
}

func (p modelCtx) mode() int {
	if p.stands == "line" && p.back {
		return 2
	}
	return map[string]int{"ready": 0, "sign": 1, "line": 3, "end": 4}[p.stands]
}

func (m *modelCpu) cpu() impl.Cpu {
	c := impl.Cpu{Cells: m.cells[:], Ready: m.ready(), Left: m.gap() - m.used, Gap: m.begun % len(m.gaps), Said: m.said, Ran: m.ran, Picks: m.picks}
	for _, p := range m.procs {
		c.Ctxs = append(c.Ctxs, impl.Ctx{Regs: p.regs[:], Pc: p.pc, Mode: p.mode(), On: p.on, Room: p.room})
	}
	for room := range 2 {
		c.Rooms = append(c.Rooms, 1+m.holder(room))
		c.Lines = append(c.Lines, m.line(room))
	}
	for a := range 2 {
		c.Signs = append(c.Signs, m.sign(a))
	}
	return c
}

// shownCpu tells processors apart without the program's help; a nil and an empty slice look alike.
func shownCpu(c impl.Cpu) string { return fmt.Sprintf("%+v", c) }
