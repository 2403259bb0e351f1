package tests

import (
	"cmp"
	"fmt"
	"slices"

	"loop.example/changeringer/impl"
)

// model is chapter 3 written apart from the program: a process is a stack of lists, and the monitors and queues
// are not kept but found from the processes.
type model struct {
	procs []modelProc
	cells [3]int
	said  []impl.Say
	clock int
}

// modelProc waits for the signal on since the time since, or does not wait if that is 0.
type modelProc struct {
	regs   [3]int
	stack  [][]impl.Stmt
	room   int
	inside bool
	back   bool
	on     int
	since  int
}

func newModel(p [][]impl.Stmt) *model {
	m := &model{}
	for _, process := range p {
		m.procs = append(m.procs, modelProc{stack: [][]impl.Stmt{process}, room: -1})
	}
	return m
}

// todo flattens the stack, the top of which is its end.
func (p *modelProc) todo() []impl.Stmt {
	var out []impl.Stmt
	for _, process := range slices.Backward(p.stack) {
		out = append(out, process...)
	}
	return out
}

func (p *modelProc) pop() impl.Stmt {
	for len(p.stack[len(p.stack)-1]) == 0 {
		p.stack = p.stack[:len(p.stack)-1]
	}
	top := p.stack[len(p.stack)-1]
	p.stack[len(p.stack)-1] = top[1:]
	return top[0]
}

func (p *modelProc) push(body []impl.Stmt, behind ...impl.Stmt) {
	p.stack = append(p.stack, behind, body)
}

// holder is the process inside of a monitor, or -1.
func (m *model) holder(room int) int {
	return slices.IndexFunc(m.procs, func(p modelProc) bool { return p.inside && p.room == room })
}

// queue is who waits for a signal, the longest one first.
func (m *model) queue(sign int) []int {
	var out []int
	for who, p := range m.procs {
		if p.since > 0 && p.on == sign {
			out = append(out, who)
		}
	}
	slices.SortFunc(out, func(a, b int) int { return cmp.Compare(m.procs[a].since, m.procs[b].since) })
	return out
}

// code is that of a step, which is not taken.
func (m *model) code(who int) int {
	if who < 0 || who >= len(m.procs) {
		return 3
	}
	p := &m.procs[who]
	todo := p.todo()
	switch {
	case p.since > 0, p.back && m.holder(p.room) >= 0:
		return 2
	case p.back:
		return 0
	case len(todo) == 0:
		return 1
	case todo[0].Kind == impl.StmtIn && m.holder(todo[0].A) >= 0:
		return 2
	}
	return 0
}

func (m *model) step(who int) int {
	m.clock++
	if code := m.code(who); code != 0 {
		return code
	}
	p := &m.procs[who]
	if p.back {
		p.back, p.inside = false, true
	} else {
		m.execute(who, p, p.pop())
	}
	return 0
}

func (m *model) play(picks []int) []int {
	codes := make([]int, len(picks))
	for i, who := range picks {
		codes[i] = m.step(who)
	}
	return codes
}

func (m *model) execute(who int, p *modelProc, s impl.Stmt) {
	switch s.Kind {
	case impl.StmtNum:
		p.regs[s.A] = s.N
	case impl.StmtDo:
		p.regs[s.A] = combine(s.N, p.regs[s.A], p.regs[s.B])
	case impl.StmtLoad:
		p.regs[s.A] = m.cells[s.B]
	case impl.StmtStore:
		m.cells[s.A] = p.regs[s.B]
	case impl.StmtSay:
		m.said = append(m.said, impl.Say{Who: who, N: p.regs[s.A]})
	case impl.StmtIf:
		if p.regs[s.A] != 0 {
			p.push(s.Body)
		} else {
			p.push(s.Else)
		}
	case impl.StmtWhile:
		if p.regs[s.A] != 0 {
			p.push(s.Body, s)
		}
	case impl.StmtIn:
		p.room, p.inside = s.A, true
		p.push(s.Body, leave(s.A))
	case impl.StmtLeave:
		p.room, p.inside = -1, false
	case impl.StmtWait:
		p.inside, p.on, p.since = false, s.A, m.clock
	case impl.StmtSignal:
		if queue := m.queue(s.A); len(queue) > 0 {
			first := &m.procs[queue[0]]
			first.since, first.on, first.back = 0, 0, true
		}
	}
}

func combine(op, a, b int) int {
	switch op {
	case impl.NumAdd:
		return clamp(a + b)
	case impl.NumSub:
		return clamp(a - b)
	case impl.NumMul:
		return clamp(a * b)
	case impl.NumLess:
		return oneIf(a < b)
	}
	return oneIf(a == b)
}

func oneIf(truth bool) int {
	if truth {
		return 1
	}
	return 0
}

func (m *model) world() impl.World {
	w := impl.World{Cells: m.cells[:], Said: m.said}
	for _, p := range m.procs {
		mode := 2*oneIf(p.back) + oneIf(p.since > 0)
		w.Procs = append(w.Procs, impl.Proc{Regs: p.regs[:], Todo: p.todo(), Mode: mode, On: p.on, Room: p.room})
	}
	for room := range 2 {
		w.Rooms = append(w.Rooms, 1+m.holder(room))
	}
	for sign := range 2 {
		w.Signs = append(w.Signs, m.queue(sign))
	}
	return w
}

// shown tells configurations apart without the program's help; a nil and an empty slice look alike.
func shown(w impl.World) string { return fmt.Sprintf("%+v", w) }
