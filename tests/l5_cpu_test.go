package tests

import (
	"fmt"
	"math"
	"math/rand/v2"
	"runtime"
	"slices"
	"sync"
	"testing"
	"time"

	"loop.example/changeringer/impl"
)

// These tests hold promise 5: whatever the timer does, an execution corresponds to an interleaving of the reference
// semantics; and promise 6: each process that is ready gets its turn.

func TestCpuLimitsModesAndCodes(t *testing.T) {
	modes := [...]int{impl.CtxReady, impl.CtxSign, impl.CtxBack, impl.CtxLine, impl.CtxEnded}
	codes := [...]int{impl.CpuDone, impl.CpuFuel, impl.CpuStuck, impl.CpuForm}
	limits := [...]int{impl.GapMost, impl.GapsMost, impl.FuelMost}
	if modes != [...]int{0, 1, 2, 3, 4} || codes != [...]int{0, 1, 2, 3} || limits != [...]int{12, 20, 90} {
		t.Error(modes, codes, limits)
	}
}

// Short ways to write processors.

// idle is a processor before its first instruction.
func idle(many, left int) impl.Cpu {
	c := impl.Cpu{Cells: []int{0, 0, 0}, Rooms: []int{0, 0}, Lines: [][]int{nil, nil}, Signs: [][]int{nil, nil}, Left: left}
	for who := range many {
		c.Ctxs = append(c.Ctxs, ctx(0, 0, -1))
		c.Ready = append(c.Ready, who)
	}
	return c
}

// ctx is a process whose registers are 0 and that waits for no signal.
func ctx(pc, mode, room int) impl.Ctx {
	return impl.Ctx{Regs: []int{0, 0, 0}, Pc: pc, Mode: mode, Room: room}
}

// behind is a processor after the instructions of ran, of which picks were steps; its queues are empty and its
// monitors free.
func behind(ran, picks, ready []int, gap, left int, ctxs ...impl.Ctx) impl.Cpu {
	c := idle(0, left)
	c.Ran, c.Picks, c.Ready, c.Gap, c.Ctxs = ran, picks, ready, gap, ctxs
	return c
}

func turned(c impl.Cpu, change func(*impl.Cpu)) impl.Cpu {
	change(&c)
	return c
}

func ints(n ...int) []int { return n }

// checkCpu makes sure that two processors look alike and are the same.
func checkCpu(t *testing.T, got, want impl.Cpu) {
	t.Helper()
	if shownCpu(got) != shownCpu(want) {
		t.Errorf("the processor is\n%s, not\n%s", shownCpu(got), shownCpu(want))
	}
	if !impl.CpuSame(got, want) || !impl.CpuSame(want, got) {
		t.Errorf("CpuSame does not know\n%s", shownCpu(got))
	}
}

// checkTwin holds promise 5: the steps of Picks are all possible, and lead to where the processor is.
func checkTwin(t *testing.T, p [][]impl.Stmt, c impl.Cpu) {
	t.Helper()
	w, codes := impl.MeanPlay(p, c.Picks)
	if !slices.Equal(codes, fine(len(c.Picks))) {
		t.Errorf("the codes of %v are %v", c.Picks, codes)
	}
	if !impl.CpuTwin(c, w) {
		t.Errorf("CpuTwin does not know\n%s and\n%s", shownCpu(c), shown(w))
	}
	for who, ctx := range c.Ctxs {
		mode := []int{impl.ProcRuns, impl.ProcWaits, impl.ProcBack, impl.ProcRuns, impl.ProcRuns}[ctx.Mode]
		want := impl.Proc{Regs: ctx.Regs, Todo: w.Procs[who].Todo, Mode: mode, On: ctx.On, Room: ctx.Room}
		if fmt.Sprint(w.Procs[who]) != fmt.Sprint(want) {
			t.Errorf("process %d is %v, not %v", who, w.Procs[who], want)
		}
		if ctx.Mode == impl.CtxEnded && len(want.Todo) != 0 {
			t.Errorf("process %d has ended with %v left", who, want.Todo)
		}
	}
	if fmt.Sprint(c.Cells, c.Rooms, c.Signs, c.Said) != fmt.Sprint(w.Cells, w.Rooms, w.Signs, w.Said) {
		t.Errorf("the processor is\n%s, and the configuration\n%s", shownCpu(c), shown(w))
	}
}

// checkQueues makes sure that each process stands where its mode says, and there only.
func checkQueues(t *testing.T, c impl.Cpu) {
	t.Helper()
	for who, ctx := range c.Ctxs {
		places := map[int]int{}
		count := func(mode int, queue []int) {
			for _, other := range queue {
				places[mode] += oneIf(other == who)
			}
		}
		count(impl.CtxReady, c.Ready)
		count(impl.CtxLine, slices.Concat(c.Lines...))
		count(impl.CtxSign, slices.Concat(c.Signs...))
		want := map[int]map[int]int{0: {0: 1, 1: 0, 3: 0}, 1: {0: 0, 1: 1, 3: 0}, 2: {0: 0, 1: 0, 3: 1}, 3: {0: 0, 1: 0, 3: 1}, 4: {0: 0, 1: 0, 3: 0}}[ctx.Mode]
		for mode, times := range want {
			if places[mode] != times {
				t.Errorf("process %d stands at the wrong place: %s", who, shownCpu(c))
			}
		}
	}
	for room, line := range c.Lines {
		if len(line) > 0 && c.Rooms[room] == 0 {
			t.Errorf("monitor %d is free, and somebody stands in its line: %s", room, shownCpu(c))
		}
	}
}

// checkTimer makes sure of what one instruction does to the timer and to those that are ready: all but the first keep
// their order, and come one place nearer with each new gap; who becomes ready goes behind them.
func checkTimer(t *testing.T, gaps []int, before, after impl.Cpu) {
	t.Helper()
	first, rest := before.Ready[0], before.Ready[1:]
	if after.Left < 1 || after.Left > gaps[after.Gap] {
		t.Errorf("%d instructions are left of gap %d", after.Left, after.Gap)
	}
	same := append([]int{first}, rest...)
	goesOn := after.Gap == before.Gap && after.Left == before.Left-1 && len(after.Ready) >= len(same) && slices.Equal(after.Ready[:len(same)], same)
	next := (before.Gap + 1) % len(gaps)
	isNext := after.Gap == next && after.Left == gaps[next] && len(after.Ready) >= len(rest) && slices.Equal(after.Ready[:len(rest)], rest)
	if !goesOn && !isNext {
		t.Errorf("gaps %v:\n%s is followed by\n%s", gaps, shownCpu(before), shownCpu(after))
	}
	if before.Left == 1 && !isNext {
		t.Errorf("gaps %v: no gap begins behind\n%s", gaps, shownCpu(before))
	}
	if !slices.Equal(after.Ran, append(slices.Clone(before.Ran), first)) {
		t.Errorf("%v is followed by %v", before.Ran, after.Ran)
	}
}

// checkPatience holds promise 6: whoever is ready with others before it has its turn when these had a gap each.
func checkPatience(t *testing.T, gaps []int, trace []impl.Cpu) {
	t.Helper()
	ran := trace[len(trace)-1].Ran
	for at, c := range trace {
		for place, who := range c.Ready {
			bound := at + place*slices.Max(gaps)
			if bound < len(ran) && !slices.Contains(ran[at:bound+1], who) {
				t.Errorf("gaps %v: process %d is ready after %d instructions of %v, and has no turn in time", gaps, who, at, ran)
			}
		}
	}
}

// checkTrace executes an instruction more each time, and returns the processors behind each and the code of the last.
func checkTrace(t *testing.T, p [][]impl.Stmt, gaps []int) ([]impl.Cpu, int) {
	t.Helper()
	run := func(fuel int) (impl.Cpu, int) { return impl.CpuRun(p, gaps, fuel) }
	return checkTraceOf(t, p, modelCodes(p), gaps, run)
}

// checkTraceOf is checkTrace for what run executes: code that is that of the program or does what it does, or, where
// that is nil, code that comes from no program.
func checkTraceOf(t *testing.T, p [][]impl.Stmt, codes [][]impl.Ins, gaps []int, run func(fuel int) (impl.Cpu, int)) ([]impl.Cpu, int) {
	t.Helper()
	var trace []impl.Cpu
	m := newModelCpu(codes, gaps)
	for fuel := range 91 {
		c, how := run(fuel)
		if how != m.how() {
			t.Errorf("the code is %d, not %d", how, m.how())
		}
		checkCpu(t, c, m.cpu())
		if p != nil {
			checkTwin(t, p, c)
		}
		checkQueues(t, c)
		trace = append(trace, c)
		if fuel > 0 {
			checkTimer(t, gaps, trace[fuel-1], c)
		}
		if t.Failed() {
			t.Fatalf("%v, %v, gaps %v, fuel %d", p, codes, gaps, fuel)
		}
		if how != impl.CpuFuel {
			checkEnd(t, p, c, how, run)
			checkPatience(t, gaps, trace)
			return trace, how
		}
		if fuel < 90 {
			m.step()
		}
	}
	checkPatience(t, gaps, trace)
	return trace, impl.CpuFuel
}

// checkEnd makes sure that where the processor ends nobody can go on, and that more fuel is of no use.
func checkEnd(t *testing.T, p [][]impl.Stmt, c impl.Cpu, how int, run func(fuel int) (impl.Cpu, int)) {
	t.Helper()
	checkCan(t, p, c.Picks)
	again, code := run(90)
	if code != how {
		t.Errorf("the code is %d with all the fuel, and %d without", code, how)
	}
	checkCpu(t, again, c)
	ended := !slices.ContainsFunc(c.Ctxs, func(ctx impl.Ctx) bool { return ctx.Mode != impl.CtxEnded })
	if len(c.Ready) != 0 || ended != (how == impl.CpuDone) || !ended && how != impl.CpuStuck {
		t.Errorf("the code is %d:\n%s", how, shownCpu(c))
	}
}

// checkAfter compares a processor after that many instructions, and all on the way there and beyond.
func checkAfter(t *testing.T, p [][]impl.Stmt, gaps []int, fuel, how int, want impl.Cpu) {
	t.Helper()
	c, code := impl.CpuRun(p, gaps, fuel)
	if code != how {
		t.Errorf("the code is %d, not %d", code, how)
	}
	checkCpu(t, c, want)
	checkTrace(t, p, gaps)
}

func TestGapsOk(t *testing.T) {
	for _, gaps := range [][]int{{1}, {12}, {5, 1, 12}, slices.Repeat(ints(1), 20), slices.Repeat(ints(12), 20), {1, 2, 3, 4, 5, 6, 7, 8, 9, 10, 11, 12}} {
		if !impl.GapsOk(gaps) {
			t.Errorf("%v are not valid", gaps)
		}
	}
	for name, gaps := range invalidGaps() {
		if impl.GapsOk(gaps) {
			t.Errorf("%s are valid", name)
		}
	}
}

func invalidGaps() map[string][]int {
	return map[string][]int{
		"no gaps":         nil,
		"empty gaps":      {},
		"21 gaps":         slices.Repeat(ints(1), 21),
		"many gaps":       slices.Repeat(ints(1), 5000),
		"a gap of 0":      {0},
		"a gap of 13":     {13},
		"a last 0":        {1, 2, 0},
		"a last 13":       {1, 2, 13},
		"a 0 first":       {0, 1, 2},
		"a 13 within":     {1, 13, 2},
		"a negative gap":  {-1},
		"negative within": {3, -3, 3},
		"the least":       {math.MinInt},
		"the most":        {math.MaxInt},
		"a last of 20":    append(slices.Repeat(ints(12), 19), 13),
		"a 1 by wrapping": {1<<32 + 1},
	}
}

func TestCpuInvalidArguments(t *testing.T) {
	good := program(t, "say 0", "in 0 [ wait 0 ]")
	check := func(name string, p [][]impl.Stmt, gaps []int, fuel int) {
		t.Helper()
		c, how := impl.CpuRun(p, gaps, fuel)
		if how != impl.CpuForm {
			t.Errorf("%s: the code is %d", name, how)
		}
		checkCpu(t, c, impl.Cpu{})
	}
	for name, p := range invalidPrograms() {
		for _, fuel := range []int{0, 1, 90, -1, 91} {
			check(name, p, ints(1), fuel)
			check(name, p, nil, fuel)
		}
	}
	for name, gaps := range invalidGaps() {
		for _, fuel := range []int{0, 1, 90, -1, 91} {
			check(name, good, gaps, fuel)
		}
	}
	for _, fuel := range []int{-1, 91, 92, -90, 1000, math.MinInt, math.MaxInt, 1 << 32, -1 << 32} {
		check(fmt.Sprint("fuel ", fuel), good, ints(1), fuel)
		check(fmt.Sprint("fuel ", fuel), [][]impl.Stmt{nil}, ints(12, 1), fuel)
	}
}

func TestCpuBeforeTheFirstInstruction(t *testing.T) {
	texts := []string{"in 1 [ wait 0 ]", "-", "num 0 5 say 0"}
	for many := 1; many <= 3; many++ {
		for _, gaps := range [][]int{{1}, {12}, {7, 3}} {
			checkAfter(t, program(t, texts[:many]...), gaps, 0, impl.CpuFuel, idle(many, gaps[0]))
		}
	}
}

// TestEachOpOnce executes an instruction of each op, behind others that make its effect seen.
func TestEachOpOnce(t *testing.T) {
	withRegs := func(c impl.Cpu, a, b, d int) impl.Cpu {
		c.Ctxs[0].Regs = ints(a, b, d)
		return c
	}
	cells := func(a, b, d int) func(*impl.Cpu) {
		return func(c *impl.Cpu) { c.Cells = ints(a, b, d) }
	}
	// after is a process alone that executed so many instructions, all of which were steps, and is at that Pc.
	after := func(steps, pc int) impl.Cpu {
		return behind(fine(steps), fine(steps), ints(0), 0, 5-steps, ctx(pc, 0, -1))
	}
	for _, c := range []struct {
		text  string
		steps int
		how   int
		want  impl.Cpu
	}{
		{"num 1 -7 yield", 1, 1, withRegs(after(1, 1), 0, -7, 0)},
		{"num 0 5 num 1 3 add 0 1", 3, 1, withRegs(after(3, 3), 8, 3, 0)},
		{"num 0 5 num 1 3 sub 0 1", 3, 1, withRegs(after(3, 3), 2, 3, 0)},
		{"num 0 5 num 2 3 mul 2 0", 3, 1, withRegs(after(3, 3), 5, 0, 15)},
		{"num 0 5 num 1 3 less 1 0", 3, 1, withRegs(after(3, 3), 5, 1, 0)},
		{"num 0 5 num 1 5 same 0 1", 3, 1, withRegs(after(3, 3), 1, 5, 0)},
		{"num 0 999 num 1 1 add 0 1", 3, 1, withRegs(after(3, 3), 999, 1, 0)},
		{"num 0 -999 num 1 1 sub 0 1", 3, 1, withRegs(after(3, 3), -999, 1, 0)},
		{"num 1 5 store 2 1 yield", 2, 1, turned(withRegs(after(2, 2), 0, 5, 0), cells(0, 0, 5))},
		{"num 1 5 store 0 1 load 2 0", 3, 1, turned(withRegs(after(3, 3), 0, 5, 5), cells(5, 0, 0))},
		{"num 1 5 store 1 1 load 1 0", 3, 1, turned(withRegs(after(3, 3), 0, 0, 0), cells(0, 5, 0))},
		{"num 2 5 say 2", 2, 1, turned(withRegs(after(2, 2), 0, 0, 5), func(c *impl.Cpu) { c.Said = []impl.Say{{Who: 0, N: 5}} })},
		{"if 0 [ say 0 ] [ yield ]", 1, 1, after(1, 3)},
		{"num 0 -1 if 0 [ say 0 ] [ yield ]", 2, 1, withRegs(after(2, 2), -1, 0, 0)},
		{"while 2 [ say 0 ] yield", 1, 1, after(1, 3)},
		{"num 2 1 while 2 [ say 0 ] yield", 2, 1, withRegs(after(2, 2), 0, 0, 1)},
		{"num 0 1 if 0 [ ] [ yield ] say 0", 3, 1, withRegs(behind(fine(3), fine(2), ints(0), 0, 2, ctx(4, 0, -1)), 1, 0, 0)},
		{"num 0 1 while 0 [ ] say 0", 3, 1, withRegs(behind(fine(3), fine(2), ints(0), 0, 2, ctx(1, 0, -1)), 1, 0, 0)},
		{"in 1 [ yield ]", 1, 1, turned(behind(fine(1), fine(1), ints(0), 0, 4, ctx(1, 0, 1)), func(c *impl.Cpu) { c.Rooms = ints(0, 1) })},
		{"in 0 [ yield ]", 1, 1, turned(behind(fine(1), fine(1), ints(0), 0, 4, ctx(1, 0, 0)), func(c *impl.Cpu) { c.Rooms = ints(1, 0) })},
		{"in 1 [ ] yield", 2, 1, after(2, 2)},
		{"in 1 [ wait 1 ]", 2, 2, turned(behind(fine(2), fine(2), nil, 1, 7, ctx(2, 1, 1)), func(c *impl.Cpu) {
			c.Signs = [][]int{nil, {0}}
			c.Ctxs[0].On = 1
		})},
		{"signal 1 yield", 1, 1, after(1, 1)},
		{"yield say 0", 1, 1, behind(fine(1), fine(1), ints(0), 1, 7, ctx(1, 0, -1))},
		{"-", 1, 0, behind(fine(1), nil, nil, 1, 7, ctx(0, 4, -1))},
		{"say 0", 2, 0, turned(behind(fine(2), fine(1), nil, 1, 7, ctx(1, 4, -1)), func(c *impl.Cpu) { c.Said = []impl.Say{{}} })},
	} {
		checkAfter(t, program(t, c.text), ints(5, 7), c.steps, c.how, c.want)
		if t.Failed() {
			t.Fatalf("%q", c.text)
		}
	}
}

// TestThreeProcessesUnderSeveralGaps has three instructions a process, the last of which is the end.
func TestThreeProcessesUnderSeveralGaps(t *testing.T) {
	p := program(t, "num 0 1 say 0", "num 0 2 say 0", "num 0 3 say 0")
	for _, c := range []struct {
		gaps, ran []int
		gap, left int
	}{
		{ints(1), ints(0, 1, 2, 0, 1, 2, 0, 1, 2), 0, 1},
		{ints(2), ints(0, 0, 1, 1, 2, 2, 0, 1, 2), 0, 2},
		{ints(3), ints(0, 0, 0, 1, 1, 1, 2, 2, 2), 0, 3},
		{ints(12), ints(0, 0, 0, 1, 1, 1, 2, 2, 2), 0, 12},
		{ints(1, 2), ints(0, 1, 1, 2, 0, 0, 1, 2, 2), 0, 1},
		{ints(2, 1), ints(0, 0, 1, 2, 2, 0, 1, 1, 2), 0, 2},
		{ints(1, 3, 4), ints(0, 1, 1, 1, 2, 2, 2, 0, 0), 2, 4},
		{ints(2, 12), ints(0, 0, 1, 1, 1, 2, 2, 0, 2), 1, 12},
	} {
		var picks []int
		var said []impl.Say
		many := [3]int{}
		for _, who := range c.ran {
			many[who]++
			if many[who] < 3 {
				picks = append(picks, who)
			}
			if many[who] == 2 {
				said = append(said, impl.Say{Who: who, N: who + 1})
			}
		}
		want := behind(c.ran, picks, nil, c.gap, c.left, ctx(2, 4, -1), ctx(2, 4, -1), ctx(2, 4, -1))
		for who := range 3 {
			want.Ctxs[who].Regs[0] = who + 1
		}
		want.Said = said
		checkAfter(t, p, c.gaps, 90, impl.CpuDone, want)
		if t.Failed() {
			t.Fatal(c.gaps)
		}
	}
}

// checkSteps compares the processor after as many instructions as each key says.
func checkSteps(t *testing.T, p [][]impl.Stmt, gaps []int, want map[int]impl.Cpu) {
	t.Helper()
	trace, _ := checkTrace(t, p, gaps)
	for steps, c := range want {
		if steps >= len(trace) {
			t.Fatalf("there are no %d instructions", steps)
		}
		checkCpu(t, trace[steps], c)
		if t.Failed() {
			t.Fatalf("after %d instructions", steps)
		}
	}
}

// queues puts processes into the monitors, into the lines for them and into the queues of the signals.
func queues(c impl.Cpu, rooms []int, lines, signs [][]int) impl.Cpu {
	c.Rooms, c.Lines, c.Signs = rooms, lines, signs
	return c
}

// waits is a process that waits for a signal.
func waits(pc, on, room int) impl.Ctx {
	c := ctx(pc, impl.CtxSign, room)
	c.On = on
	return c
}

var nobody = [][]int{nil, nil}

func TestEnterOfATakenMonitor(t *testing.T) {
	p := program(t, "in 0 [ signal 0 signal 0 ]", "in 0 [ ]")
	checkSteps(t, p, ints(1, 4, 6), map[int]impl.Cpu{
		1: queues(behind(ints(0), ints(0), ints(1, 0), 1, 4, ctx(1, 0, 0), ctx(0, 0, -1)), ints(1, 0), nobody, nobody),
		2: queues(behind(ints(0, 1), ints(0), ints(0), 2, 6, ctx(1, 0, 0), ctx(0, 3, -1)), ints(1, 0), [][]int{{1}, nil}, nobody),
		3: queues(behind(ints(0, 1, 0), ints(0, 0), ints(0), 2, 5, ctx(2, 0, 0), ctx(0, 3, -1)), ints(1, 0), [][]int{{1}, nil}, nobody),
	})
	// The other monitor is free.
	p = program(t, "in 0 [ signal 0 ]", "in 1 [ ]")
	checkSteps(t, p, ints(1, 4, 6), map[int]impl.Cpu{
		2: queues(behind(ints(0, 1), ints(0, 1), ints(1, 0), 1, 3, ctx(1, 0, 0), ctx(1, 0, 1)), ints(1, 2), nobody, nobody),
	})
}

func TestLeaveWithNobodyInLine(t *testing.T) {
	checkSteps(t, program(t, "in 1 [ ] signal 0", "signal 1"), ints(5), map[int]impl.Cpu{
		1: queues(behind(ints(0), ints(0), ints(0, 1), 0, 4, ctx(1, 0, 1), ctx(0, 0, -1)), ints(0, 1), nobody, nobody),
		2: behind(ints(0, 0), ints(0, 0), ints(0, 1), 0, 3, ctx(2, 0, -1), ctx(0, 0, -1)),
	})
}

func TestLeaveWithOneInLine(t *testing.T) {
	p := program(t, "in 0 [ ] signal 0", "in 0 [ signal 1 ]")
	checkSteps(t, p, ints(1, 4, 6), map[int]impl.Cpu{
		2: queues(behind(ints(0, 1), ints(0), ints(0), 2, 6, ctx(1, 0, 0), ctx(0, 3, -1)), ints(1, 0), [][]int{{1}, nil}, nobody),
		3: queues(behind(ints(0, 1, 0), ints(0, 0, 1), ints(0, 1), 2, 5, ctx(2, 0, -1), ctx(1, 0, 0)), ints(2, 0), nobody, nobody),
		4: queues(behind(ints(0, 1, 0, 0), ints(0, 0, 1, 0), ints(0, 1), 2, 4, ctx(3, 0, -1), ctx(1, 0, 0)), ints(2, 0), nobody, nobody),
	})
}

func TestLeaveWithSeveralInLine(t *testing.T) {
	p := program(t, "in 1 [ ] signal 0", "in 1 [ ]", "in 1 [ ]")
	checkSteps(t, p, ints(1, 2, 3, 7), map[int]impl.Cpu{
		2: queues(behind(ints(0, 1), ints(0), ints(2, 0), 2, 3, ctx(1, 0, 1), ctx(0, 3, -1), ctx(0, 0, -1)), ints(0, 1), [][]int{nil, {1}}, nobody),
		3: queues(behind(ints(0, 1, 2), ints(0), ints(0), 3, 7, ctx(1, 0, 1), ctx(0, 3, -1), ctx(0, 3, -1)), ints(0, 1), [][]int{nil, {1, 2}}, nobody),
		4: queues(behind(ints(0, 1, 2, 0), ints(0, 0, 1), ints(0, 1), 3, 6, ctx(2, 0, -1), ctx(1, 0, 1), ctx(0, 3, -1)), ints(0, 2), [][]int{nil, {2}}, nobody),
	})
	// The first is who came first, not who has the least number.
	p = program(t, "in 1 [ yield ]", "yield in 1 [ ]", "in 1 [ ]")
	checkSteps(t, p, ints(1), map[int]impl.Cpu{
		5: queues(behind(ints(0, 1, 2, 0, 1), ints(0, 1, 0), ints(0), 0, 1, ctx(2, 0, 1), ctx(1, 3, -1), ctx(0, 3, -1)), ints(0, 1), [][]int{nil, {2, 1}}, nobody),
		6: queues(behind(ints(0, 1, 2, 0, 1, 0), ints(0, 1, 0, 0, 2), ints(2, 0), 0, 1, ctx(3, 0, -1), ctx(1, 3, -1), ctx(1, 0, 1)), ints(0, 3), [][]int{nil, {1}}, nobody),
	})
}

// Only the line for the monitor that is left moves.
func TestLeaveOfOneMonitorOfTwo(t *testing.T) {
	p := program(t, "in 0 [ ] in 1 [ ]", "in 1 [ signal 0 signal 0 ]", "in 0 [ ]")
	checkSteps(t, p, ints(1, 1, 1, 3, 2), map[int]impl.Cpu{
		3: queues(behind(ints(0, 1, 2), ints(0, 1), ints(0, 1), 3, 3, ctx(1, 0, 0), ctx(1, 0, 1), ctx(0, 3, -1)), ints(1, 2), [][]int{{2}, nil}, nobody),
		4: queues(behind(ints(0, 1, 2, 0), ints(0, 1, 0, 2), ints(0, 1, 2), 3, 2, ctx(2, 0, -1), ctx(1, 0, 1), ctx(1, 0, 0)), ints(3, 2), nobody, nobody),
		5: queues(behind(ints(0, 1, 2, 0, 0), ints(0, 1, 0, 2), ints(1, 2), 4, 2, ctx(2, 3, -1), ctx(1, 0, 1), ctx(1, 0, 0)), ints(3, 2), [][]int{nil, {0}}, nobody),
	})
}

// One that was signaled is behind its InsWait when it gets in.
func TestLeaveToOneThatWasSignaled(t *testing.T) {
	p := program(t, "in 0 [ wait 0 signal 1 ]", "in 0 [ signal 0 ]")
	checkSteps(t, p, ints(2, 5), map[int]impl.Cpu{
		2: queues(behind(ints(0, 0), ints(0, 0), ints(1), 1, 5, waits(2, 0, 0), ctx(0, 0, -1)), ints(0, 0), nobody, [][]int{{0}, nil}),
		4: queues(behind(ints(0, 0, 1, 1), ints(0, 0, 1, 1), ints(1), 1, 3, ctx(2, 2, 0), ctx(2, 0, 0)), ints(2, 0), [][]int{{0}, nil}, nobody),
		5: queues(behind(ints(0, 0, 1, 1, 1), ints(0, 0, 1, 1, 1, 0), ints(1, 0), 1, 2, ctx(2, 0, 0), ctx(3, 0, -1)), ints(1, 0), nobody, nobody),
	})
}

func TestWaitWithOthersInLine(t *testing.T) {
	p := program(t, "in 0 [ yield wait 1 ]", "in 0 [ signal 0 ]", "in 0 [ ]")
	checkSteps(t, p, ints(4, 5, 6), map[int]impl.Cpu{
		4: queues(behind(ints(0, 0, 1, 2), ints(0, 0), ints(0), 0, 4, ctx(2, 0, 0), ctx(0, 3, -1), ctx(0, 3, -1)), ints(1, 0), [][]int{{1, 2}, nil}, nobody),
		5: queues(behind(ints(0, 0, 1, 2, 0), ints(0, 0, 0, 1), ints(1), 1, 5, waits(3, 1, 0), ctx(1, 0, 0), ctx(0, 3, -1)), ints(2, 0), [][]int{{2}, nil}, [][]int{nil, {0}}),
	})
	// One that was signaled may be let in by one that waits, too.
	p = program(t, "in 1 [ wait 0 signal 1 ]", "in 1 [ signal 0 wait 1 ]")
	checkSteps(t, p, ints(12, 3), map[int]impl.Cpu{
		4: queues(behind(ints(0, 0, 1, 1), ints(0, 0, 1, 1), ints(1), 1, 1, ctx(2, 2, 1), ctx(2, 0, 1)), ints(0, 2), [][]int{nil, {0}}, nobody),
		5: queues(behind(ints(0, 0, 1, 1, 1), ints(0, 0, 1, 1, 1, 0), ints(0), 0, 12, ctx(2, 0, 1), waits(3, 1, 1)), ints(0, 1), nobody, [][]int{nil, {1}}),
	})
}

func TestSignalToNobody(t *testing.T) {
	p := program(t, "signal 0 in 0 [ wait 0 ]", "signal 1 signal 1")
	checkSteps(t, p, ints(3, 2), map[int]impl.Cpu{
		1: behind(ints(0), ints(0), ints(0, 1), 0, 2, ctx(1, 0, -1), ctx(0, 0, -1)),
		// The signal that came before is gone, and another signal is of no use.
		5: queues(behind(ints(0, 0, 0, 1, 1), ints(0, 0, 0, 1, 1), ints(1), 0, 3, waits(3, 0, 0), ctx(2, 0, -1)), ints(0, 0), nobody, [][]int{{0}, nil}),
	})
}

func TestSignalToOneWhoseMonitorIsFree(t *testing.T) {
	p := program(t, "in 1 [ wait 1 signal 0 ]", "signal 1 signal 0")
	checkSteps(t, p, ints(2, 5), map[int]impl.Cpu{
		2: queues(behind(ints(0, 0), ints(0, 0), ints(1), 1, 5, waits(2, 1, 1), ctx(0, 0, -1)), ints(0, 0), nobody, [][]int{nil, {0}}),
		3: queues(behind(ints(0, 0, 1), ints(0, 0, 1, 0), ints(1, 0), 1, 4, ctx(2, 0, 1), ctx(1, 0, -1)), ints(0, 1), nobody, nobody),
	})
	// The signaling process may be inside of the other monitor.
	p = program(t, "in 1 [ wait 1 ]", "in 0 [ signal 1 ]")
	checkSteps(t, p, ints(2, 5), map[int]impl.Cpu{
		4: queues(behind(ints(0, 0, 1, 1), ints(0, 0, 1, 1, 0), ints(1, 0), 1, 3, ctx(2, 0, 1), ctx(2, 0, 0)), ints(2, 1), nobody, nobody),
	})
}

func TestSignalToOneWhoseMonitorIsTaken(t *testing.T) {
	// By a third process, with nobody in line.
	p := program(t, "in 0 [ wait 0 ]", "in 0 [ signal 1 ]", "signal 0")
	checkSteps(t, p, ints(2, 1, 5), map[int]impl.Cpu{
		3: queues(behind(ints(0, 0, 1), ints(0, 0, 1), ints(2, 1), 2, 5, waits(2, 0, 0), ctx(1, 0, 0), ctx(0, 0, -1)), ints(2, 0), nobody, [][]int{{0}, nil}),
		4: queues(behind(ints(0, 0, 1, 2), ints(0, 0, 1, 2), ints(2, 1), 2, 4, ctx(2, 2, 0), ctx(1, 0, 0), ctx(1, 0, -1)), ints(2, 0), [][]int{{0}, nil}, nobody),
	})
	// By the signaling process itself, behind one that stands in line; then that one gets in first.
	p = program(t, "in 0 [ wait 0 ]", "in 0 [ signal 0 ]", "in 0 [ ]")
	checkSteps(t, p, ints(2, 1, 1), map[int]impl.Cpu{
		4: queues(behind(ints(0, 0, 1, 2), ints(0, 0, 1), ints(1), 0, 2, waits(2, 0, 0), ctx(1, 0, 0), ctx(0, 3, -1)), ints(2, 0), [][]int{{2}, nil}, [][]int{{0}, nil}),
		5: queues(behind(ints(0, 0, 1, 2, 1), ints(0, 0, 1, 1), ints(1), 0, 1, ctx(2, 2, 0), ctx(2, 0, 0), ctx(0, 3, -1)), ints(2, 0), [][]int{{2, 0}, nil}, nobody),
		6: queues(behind(ints(0, 0, 1, 2, 1, 1), ints(0, 0, 1, 1, 1, 2), ints(2, 1), 1, 1, ctx(2, 2, 0), ctx(3, 0, -1), ctx(1, 0, 0)), ints(3, 0), [][]int{{0}, nil}, nobody),
		7: queues(behind(ints(0, 0, 1, 2, 1, 1, 2), ints(0, 0, 1, 1, 1, 2, 2, 0), ints(1, 0, 2), 2, 1, ctx(2, 0, 0), ctx(3, 0, -1), ctx(2, 0, -1)), ints(1, 0), nobody, nobody),
	})
}

func TestSignalToTheFirstOfSeveral(t *testing.T) {
	p := program(t, "in 0 [ wait 1 ]", "in 0 [ wait 1 ]", "signal 1 signal 1")
	checkSteps(t, p, ints(2, 3), map[int]impl.Cpu{
		4: queues(behind(ints(0, 0, 1, 1), ints(0, 0, 1, 1), ints(2), 0, 2, waits(2, 1, 0), waits(2, 1, 0), ctx(0, 0, -1)), ints(0, 0), nobody, [][]int{nil, {0, 1}}),
		5: queues(behind(ints(0, 0, 1, 1, 2), ints(0, 0, 1, 1, 2, 0), ints(2, 0), 0, 1, ctx(2, 0, 0), waits(2, 1, 0), ctx(1, 0, -1)), ints(1, 0), nobody, [][]int{nil, {1}}),
		6: queues(behind(ints(0, 0, 1, 1, 2, 2), ints(0, 0, 1, 1, 2, 0, 2), ints(0, 2), 1, 3, ctx(2, 0, 0), ctx(2, 2, 0), ctx(2, 0, -1)), ints(1, 0), [][]int{{1}, nil}, nobody),
	})
	// The first is who came first, not who has the least number.
	p = program(t, "yield in 0 [ wait 1 ]", "in 0 [ wait 1 ]", "yield signal 1")
	checkSteps(t, p, ints(6), map[int]impl.Cpu{
		6: queues(behind(ints(0, 1, 1, 2, 0, 0), ints(0, 1, 1, 2, 0, 0), ints(2), 0, 6, waits(3, 1, 0), waits(2, 1, 0), ctx(1, 0, -1)), ints(0, 0), nobody, [][]int{nil, {1, 0}}),
		7: queues(behind(ints(0, 1, 1, 2, 0, 0, 2), ints(0, 1, 1, 2, 0, 0, 2, 1), ints(2, 1), 0, 5, waits(3, 1, 0), ctx(2, 0, 0), ctx(2, 0, -1)), ints(2, 0), nobody, [][]int{nil, {0}}),
	})
}

// Who comes again is behind those that stood in line; if nobody did, it comes in at once.
func TestEnterAgainAfterLeaving(t *testing.T) {
	p := program(t, "in 0 [ yield ] in 0 [ ]", "in 0 [ ]")
	checkSteps(t, p, ints(6), map[int]impl.Cpu{
		4: queues(behind(ints(0, 0, 1, 0), ints(0, 0, 0, 1), ints(0, 1), 0, 5, ctx(3, 0, -1), ctx(1, 0, 0)), ints(2, 0), nobody, nobody),
		5: queues(behind(ints(0, 0, 1, 0, 0), ints(0, 0, 0, 1), ints(1), 0, 6, ctx(3, 3, -1), ctx(1, 0, 0)), ints(2, 0), [][]int{{0}, nil}, nobody),
		6: queues(behind(ints(0, 0, 1, 0, 0, 1), ints(0, 0, 0, 1, 1, 0), ints(1, 0), 0, 5, ctx(4, 0, 0), ctx(2, 0, -1)), ints(1, 0), nobody, nobody),
	})
	p = program(t, "in 0 [ ] in 0 [ ]", "in 0 [ ]")
	checkSteps(t, p, ints(6), map[int]impl.Cpu{
		3: queues(behind(ints(0, 0, 0), ints(0, 0, 0), ints(0, 1), 0, 3, ctx(3, 0, 0), ctx(0, 0, -1)), ints(1, 0), nobody, nobody),
	})
	// One that waits again, too, goes to the end of the queue.
	p = program(t, "in 0 [ wait 0 wait 0 ]", "in 0 [ wait 0 ]", "signal 0 yield")
	checkSteps(t, p, ints(12), map[int]impl.Cpu{
		7: queues(behind(ints(0, 0, 1, 1, 2, 2, 0), ints(0, 0, 1, 1, 2, 0, 2, 0), ints(2), 0, 12, waits(3, 0, 0), waits(2, 0, 0), ctx(2, 0, -1)), ints(0, 0), nobody, [][]int{{1, 0}, nil}),
	})
}

func TestYield(t *testing.T) {
	// Of the only process: it goes on, in the next gap.
	checkSteps(t, program(t, "yield yield yield"), ints(3, 5), map[int]impl.Cpu{
		1: behind(fine(1), fine(1), ints(0), 1, 5, ctx(1, 0, -1)),
		2: behind(fine(2), fine(2), ints(0), 0, 3, ctx(2, 0, -1)),
		3: behind(fine(3), fine(3), ints(0), 1, 5, ctx(3, 0, -1)),
		4: behind(fine(4), fine(3), nil, 0, 3, ctx(3, 4, -1)),
	})
	checkSteps(t, program(t, "signal 0 yield yield", "yield", "-"), ints(3, 5, 7), map[int]impl.Cpu{
		1: behind(ints(0), ints(0), ints(0, 1, 2), 0, 2, ctx(1, 0, -1), ctx(0, 0, -1), ctx(0, 0, -1)),
		2: behind(ints(0, 0), ints(0, 0), ints(1, 2, 0), 1, 5, ctx(2, 0, -1), ctx(0, 0, -1), ctx(0, 0, -1)),
		3: behind(ints(0, 0, 1), ints(0, 0, 1), ints(2, 0, 1), 2, 7, ctx(2, 0, -1), ctx(1, 0, -1), ctx(0, 0, -1)),
		4: behind(ints(0, 0, 1, 2), ints(0, 0, 1), ints(0, 1), 0, 3, ctx(2, 0, -1), ctx(1, 0, -1), ctx(0, 4, -1)),
		5: behind(ints(0, 0, 1, 2, 0), ints(0, 0, 1, 0), ints(1, 0), 1, 5, ctx(3, 0, -1), ctx(1, 0, -1), ctx(0, 4, -1)),
	})
	// Inside of a monitor, which stays taken.
	checkSteps(t, program(t, "in 0 [ yield ]", "-"), ints(3, 5), map[int]impl.Cpu{
		2: queues(behind(ints(0, 0), ints(0, 0), ints(1, 0), 1, 5, ctx(2, 0, 0), ctx(0, 0, -1)), ints(1, 0), nobody, nobody),
	})
}

// TestGapThatEndsWith has the last instruction of a gap be each that ends it by itself: one gap is used up, never two.
func TestGapThatEndsWith(t *testing.T) {
	for _, c := range []struct {
		name  string
		texts []string
		gaps  []int
		steps int
		ready []int
		gap   int
		left  int
	}{
		{"InsWait", []string{"in 0 [ wait 0 ]", "yield", "yield"}, ints(2, 3, 5), 2, ints(1, 2), 1, 3},
		{"InsWait alone", []string{"in 0 [ wait 0 ]"}, ints(2, 3, 5), 2, nil, 1, 3},
		{"InsWait that lets one in", []string{"in 0 [ yield wait 0 ]", "in 0 [ ]"}, ints(2, 1, 1, 5), 4, ints(1), 3, 5},
		{"InsEnter that is held", []string{"in 0 [ yield ]", "in 0 [ ]", "yield"}, ints(1, 1, 7, 5), 2, ints(2, 0), 2, 7},
		{"InsEnter that is held alone", []string{"in 0 [ yield ]", "in 0 [ ]"}, ints(1, 1, 7, 5), 2, ints(0), 2, 7},
		{"InsEnter", []string{"in 0 [ yield ]", "in 0 [ ]"}, ints(1, 4), 1, ints(1, 0), 1, 4},
		{"InsEnd", []string{"-", "yield", "yield"}, ints(1, 3, 5), 1, ints(1, 2), 1, 3},
		{"InsEnd alone", []string{"-"}, ints(1, 3, 5), 1, nil, 1, 3},
		{"InsYield", []string{"yield", "yield", "yield"}, ints(1, 3, 5), 1, ints(1, 2, 0), 1, 3},
		{"InsYield alone", []string{"yield"}, ints(1, 3, 5), 1, ints(0), 1, 3},
		{"InsYield alone behind another", []string{"signal 0 yield"}, ints(2, 3, 5), 2, ints(0), 1, 3},
		{"InsJump", []string{"num 0 1 while 0 [ ]", "yield", "yield"}, ints(3, 4, 5), 3, ints(1, 2, 0), 1, 4},
		{"InsJump alone", []string{"num 0 1 while 0 [ ]"}, ints(3, 4, 5), 3, ints(0), 1, 4},
		{"InsLeave that lets one in", []string{"in 0 [ signal 0 ]", "in 0 [ ]"}, ints(1, 1, 2, 6), 4, ints(1, 0), 3, 6},
		{"InsSignal that wakes one", []string{"in 0 [ wait 0 ]", "signal 0"}, ints(2, 1, 6), 3, ints(0, 1), 2, 6},
		{"InsSignal to one in line", []string{"in 0 [ wait 0 ]", "in 0 [ signal 0 ]"}, ints(2, 2, 6), 4, ints(1), 2, 6},
		{"InsSay", []string{"say 0 say 0", "yield"}, ints(1, 4), 1, ints(1, 0), 1, 4},
		{"InsSay alone", []string{"say 0 say 0"}, ints(1, 4), 1, ints(0), 1, 4},
		{"a gap that goes on", []string{"say 0 say 0", "yield"}, ints(2, 4), 1, ints(0, 1), 0, 1},
	} {
		p := program(t, c.texts...)
		trace, _ := checkTrace(t, p, c.gaps)
		got := trace[c.steps]
		if !slices.Equal(got.Ready, c.ready) || got.Gap != c.gap || got.Left != c.left {
			t.Errorf("%s: %s", c.name, shownCpu(got))
		}
	}
}

const forever = "num 0 1 while 0 [ ]"

// slicesInTurn is who executes 90 instructions if that many processes go on for ever, each with a gap at a time.
func slicesInTurn(many int, gaps []int) []int {
	var ran []int
	for i := 0; len(ran) < 90; i++ {
		ran = append(ran, slices.Repeat(ints(i%many), gaps[i%len(gaps)])...)
	}
	return ran[:90]
}

func TestLengthsOfGaps(t *testing.T) {
	twenty := make([]int, 20)
	for i := range twenty {
		twenty[i] = 1 + i%4
	}
	for _, c := range []struct {
		gaps      []int
		gap, left int
	}{
		{ints(1), 0, 1}, {ints(2), 0, 2}, {ints(12), 0, 6}, {ints(11), 0, 9}, {ints(1, 12), 1, 1}, {ints(12, 1), 1, 1}, {ints(12, 11, 10), 2, 9},
		{twenty, 16, 1}, {slices.Repeat(ints(12), 20), 7, 6}, {slices.Repeat(ints(1), 20), 10, 1}, {twenty[:19], 18, 2},
	} {
		for many := 1; many <= 3; many++ {
			p := program(t, slices.Repeat([]string{forever}, many)...)
			got, how := impl.CpuRun(p, c.gaps, 90)
			ran := slicesInTurn(many, c.gaps)
			if how != impl.CpuFuel || !slices.Equal(got.Ran, ran) || got.Gap != c.gap || got.Left != c.left {
				t.Errorf("gaps %v: %d, %s, not %v", c.gaps, how, shownCpu(got), ran)
			}
			checkTrace(t, p, c.gaps)
		}
	}
}

// TestFuel has 30 instructions a process.
func TestFuel(t *testing.T) {
	const thirty = "num 1 1 num 0 8 while 0 [ sub 0 1 ] yield yield"
	full := program(t, thirty, thirty, thirty)
	more := program(t, thirty, thirty+" yield", thirty)
	for _, gaps := range [][]int{{1}, {5}, {12}, {3, 7, 1}} {
		if c, how := impl.CpuRun(full, gaps, 90); how != impl.CpuDone || len(c.Ran) != 90 || len(c.Ready) != 0 {
			t.Errorf("fuel that is just enough: %d, %s", how, shownCpu(c))
		}
		if c, how := impl.CpuRun(full, gaps, 89); how != impl.CpuFuel || len(c.Ran) != 89 || len(c.Ready) != 1 {
			t.Errorf("one less: %d, %s", how, shownCpu(c))
		}
		if c, how := impl.CpuRun(more, gaps, 90); how != impl.CpuFuel || len(c.Ran) != 90 || len(c.Ready) != 1 {
			t.Errorf("one instruction more: %d, %s", how, shownCpu(c))
		}
		checkTrace(t, full, gaps)
		checkTrace(t, more, gaps)
	}
	few := program(t, "num 0 1 say 0", "yield", "in 0 [ wait 0 ]")
	for fuel := range 91 {
		c, how := impl.CpuRun(few, ints(2), fuel)
		want := impl.CpuFuel
		if fuel >= 7 {
			want = impl.CpuStuck
		}
		if how != want || len(c.Ran) != min(fuel, 7) {
			t.Errorf("fuel %d: %d, %s", fuel, how, shownCpu(c))
		}
	}
}

func TestEmptyProcesses(t *testing.T) {
	ended := ctx(0, 4, -1)
	gaps := ints(2, 3)
	checkAfter(t, [][]impl.Stmt{nil}, gaps, 1, impl.CpuDone, behind(ints(0), nil, nil, 1, 3, ended))
	checkAfter(t, [][]impl.Stmt{{}, nil}, gaps, 2, impl.CpuDone, behind(ints(0, 1), nil, nil, 0, 2, ended, ended))
	checkAfter(t, [][]impl.Stmt{nil, {}, nil}, gaps, 90, impl.CpuDone, behind(ints(0, 1, 2), nil, nil, 1, 3, ended, ended, ended))
	checkAfter(t, [][]impl.Stmt{nil, {}, nil}, gaps, 2, impl.CpuFuel, behind(ints(0, 1), nil, ints(2), 0, 2, ended, ended, ctx(0, 0, -1)))
}

func TestHowItEnds(t *testing.T) {
	for _, c := range []struct {
		how   int
		texts []string
	}{
		{impl.CpuDone, []string{"num 0 1 while 0 [ num 0 0 ]", "in 0 [ yield ]", "in 0 [ yield ]"}},
		{impl.CpuDone, []string{"in 0 [ wait 0 ]", "in 0 [ signal 0 ]"}},
		{impl.CpuStuck, []string{"in 0 [ wait 0 ]"}},
		{impl.CpuStuck, []string{"in 0 [ wait 0 ]", "-", "signal 1"}},
		{impl.CpuStuck, []string{"in 0 [ wait 0 ]", "in 0 [ wait 1 ]", "in 0 [ wait 0 ]"}},
		{impl.CpuStuck, []string{"in 0 [ wait 1 ]", "in 1 [ wait 1 ]", "yield yield yield yield yield yield yield signal 1"}},
		{impl.CpuFuel, []string{forever}},
		{impl.CpuFuel, []string{"in 0 [ wait 0 ]", "in 1 [ num 0 1 while 0 [ ] ]", "-"}},
		{impl.CpuFuel, []string{"num 0 1 while 0 [ yield ]", "-"}},
		{impl.CpuFuel, []string{"num 0 1 while 0 [ in 0 [ yield ] ]", "num 0 1 while 0 [ in 0 [ signal 0 ] ]"}},
	} {
		for _, gaps := range [][]int{{1}, {2}, {3, 1}, {12}} {
			if _, how := checkTrace(t, program(t, c.texts...), gaps); how != c.how {
				t.Errorf("%q, gaps %v: the code is %d, not %d", c.texts, gaps, how, c.how)
			}
		}
	}
	// Where the fuel runs out, somebody may still stand in a line.
	c, how := impl.CpuRun(program(t, "in 0 [ num 0 1 while 0 [ ] ]", "in 0 [ ]"), ints(1), 90)
	if how != impl.CpuFuel || c.Ctxs[1].Mode != impl.CtxLine || !slices.Equal(c.Lines[0], ints(1)) {
		t.Error(how, shownCpu(c))
	}
}

// TestEachReadyProcessGetsItsTurn has some go on for ever, so that only the timer brings the others their turns.
func TestEachReadyProcessGetsItsTurn(t *testing.T) {
	for _, texts := range [][]string{
		{forever, "say 0", "say 0"}, {forever, forever, "say 0"}, {"in 0 [ num 0 1 while 0 [ ] ]", forever, "in 1 [ say 0 ]"},
		{"num 0 1 while 0 [ in 0 [ ] ]", "num 0 1 while 0 [ in 0 [ ] ]", "in 0 [ say 0 ]"},
		{"num 0 1 while 0 [ yield ]", forever, "yield say 0"},
		{"num 0 1 while 0 [ in 0 [ signal 0 ] ]", forever, "in 0 [ wait 0 ] say 0"},
		{"num 0 1 while 0 [ signal 0 ]", "num 0 1 while 0 [ in 0 [ yield ] ]", "in 0 [ wait 0 ] say 0"},
	} {
		p := program(t, texts...)
		for _, gaps := range [][]int{{1}, {2}, {3}, {5}, {7}, {12}, {1, 12}, {12, 1}, {4, 2, 9}} {
			checkTrace(t, p, gaps)
			if c, how := impl.CpuRun(p, gaps, 90); how != impl.CpuFuel || !slices.Equal(impl.SaidBy(c.Said, 2), ints(0)) {
				t.Errorf("%q, gaps %v: process 2 had no turn: %v", texts, gaps, c.Ran)
			}
		}
	}
}

// TestAllShortGaps tries every three gaps of up to four instructions.
func TestAllShortGaps(t *testing.T) {
	for _, texts := range lively {
		p := program(t, texts...)
		for i := range 64 {
			checkTrace(t, p, ints(1+i%4, 1+i/4%4, 1+i/16))
		}
	}
}

// gaps makes gaps, most of which are short.
func (m maker) gaps() []int {
	gaps := make([]int, 1+m.IntN(20))
	for i := range gaps {
		gaps[i] = 1 + m.IntN(1+m.IntN(12))
	}
	return gaps
}

// TestMadeRuns executes made programs, and counts that what the promises are about does happen.
func TestMadeRuns(t *testing.T) {
	m := maker{rand.New(rand.NewPCG(5, 14))}
	seen := map[string]int{}
	for range 600 {
		var p [][]impl.Stmt
		for range 1 + m.IntN(3) {
			p = append(p, m.process())
		}
		trace, how := checkTrace(t, p, m.gaps())
		seen[[]string{"done", "fuel", "stuck"}[how]]++
		for i := 1; i < len(trace); i++ {
			seen[eventOf(p, trace[i-1], trace[i])]++
		}
	}
	checkHappened(t, seen, "done", "fuel", "stuck", "8 false", "8 true", "9 0", "9 1", "9 2", "10 0", "10 1", "11 nobody", "11 free", "11 taken", "11 taken behind 1", "other")
}

// eventOf tells what the instruction between two processors did to the queues.
func eventOf(p [][]impl.Stmt, before, after impl.Cpu) string {
	who := before.Ready[0]
	i := impl.CodeOf(p[who])[before.Ctxs[who].Pc]
	switch i.Op {
	case impl.InsEnter:
		return fmt.Sprint("8 ", before.Rooms[i.A] == 0)
	case impl.InsLeave, impl.InsWait:
		return fmt.Sprint(i.Op, " ", len(before.Lines[before.Ctxs[who].Room]))
	case impl.InsSignal:
		if len(before.Signs[i.A]) == 0 {
			return "11 nobody"
		}
		room := before.Ctxs[before.Signs[i.A][0]].Room
		switch {
		case before.Rooms[room] == 0:
			return "11 free"
		case len(before.Lines[room]) > 0:
			return fmt.Sprint("11 taken behind ", len(before.Lines[room]))
		}
		return "11 taken"
	}
	return "other"
}

// manyCpu is a processor in which every slice holds something. No program leads to it.
func manyCpu() impl.Cpu {
	return impl.Cpu{
		Ctxs:  []impl.Ctx{{Regs: ints(1, 2, 3, 4), Pc: 61, Mode: 9, On: -3, Room: 7}, {Regs: ints(5), Pc: -1, Mode: 1, On: 1, Room: 1}, {}},
		Cells: ints(1, -2000, 3, 4), Rooms: ints(3, 3, 3), Lines: [][]int{{2, 2}, nil, {0}}, Signs: [][]int{{0, 1, 1}, nil, {5}, {-1, 2}},
		Ready: ints(1, 1, 0), Left: 13, Gap: 21, Said: []impl.Say{{Who: 8, N: 5000}, {Who: -1, N: 1}, {Who: 0, N: 0}}, Ran: ints(4, 5, 6), Picks: ints(7, 8),
	}
}

// cpuChanges each alter one field of manyCpu, or a length.
var cpuChanges = []func(c *impl.Cpu){
	func(c *impl.Cpu) {},
	func(c *impl.Cpu) { c.Ctxs = c.Ctxs[:2] },
	func(c *impl.Cpu) { c.Ctxs = append(c.Ctxs, impl.Ctx{}) },
	func(c *impl.Cpu) { c.Ctxs = nil },
	func(c *impl.Cpu) { c.Ctxs[0], c.Ctxs[1] = c.Ctxs[1], c.Ctxs[0] },
	func(c *impl.Cpu) { c.Ctxs[0].Regs[3]++ },
	func(c *impl.Cpu) { c.Ctxs[1].Regs[0]++ },
	func(c *impl.Cpu) { c.Ctxs[0].Regs = c.Ctxs[0].Regs[:3] },
	func(c *impl.Cpu) { c.Ctxs[2].Regs = ints(0) },
	func(c *impl.Cpu) { c.Ctxs[0].Pc = 60 },
	func(c *impl.Cpu) { c.Ctxs[0].Mode = 8 },
	func(c *impl.Cpu) { c.Ctxs[0].On = 3 },
	func(c *impl.Cpu) { c.Ctxs[0].Room = 0 },
	func(c *impl.Cpu) { c.Ctxs[1].Pc = 0 },
	func(c *impl.Cpu) { c.Ctxs[1].Mode = 2 },
	func(c *impl.Cpu) { c.Ctxs[1].On = 0 },
	func(c *impl.Cpu) { c.Ctxs[1].Room = -1 },
	func(c *impl.Cpu) { c.Ctxs[2].Pc = 1 },
	func(c *impl.Cpu) { c.Ctxs[2].Room = -1 },
	func(c *impl.Cpu) { c.Cells[0]++ },
	func(c *impl.Cpu) { c.Cells[3]++ },
	func(c *impl.Cpu) { c.Cells = c.Cells[:3] },
	func(c *impl.Cpu) { c.Cells = append(c.Cells, 0) },
	func(c *impl.Cpu) { c.Rooms[0] = 0 },
	func(c *impl.Cpu) { c.Rooms[2] = 0 },
	func(c *impl.Cpu) { c.Rooms = nil },
	func(c *impl.Cpu) { c.Lines[0][1] = 1 },
	func(c *impl.Cpu) { c.Lines[0] = c.Lines[0][:1] },
	func(c *impl.Cpu) { c.Lines[1] = ints(0) },
	func(c *impl.Cpu) { c.Lines[2][0] = 1 },
	func(c *impl.Cpu) { c.Lines = c.Lines[:2] },
	func(c *impl.Cpu) { c.Lines = append(c.Lines, nil) },
	func(c *impl.Cpu) { c.Signs[0][0] = 1 },
	func(c *impl.Cpu) { c.Signs[0] = c.Signs[0][:2] },
	func(c *impl.Cpu) { c.Signs[1] = ints(0) },
	func(c *impl.Cpu) { c.Signs[3][1] = -2 },
	func(c *impl.Cpu) { c.Signs = c.Signs[:3] },
	func(c *impl.Cpu) { c.Signs = append(c.Signs, nil) },
	func(c *impl.Cpu) { c.Ready[0] = 0 },
	func(c *impl.Cpu) { c.Ready[2] = 1 },
	func(c *impl.Cpu) { c.Ready = c.Ready[:2] },
	func(c *impl.Cpu) { c.Ready = append(c.Ready, 0) },
	func(c *impl.Cpu) { c.Left = 12 },
	func(c *impl.Cpu) { c.Gap = 13 },
	func(c *impl.Cpu) { c.Left, c.Gap = c.Gap, c.Left },
	func(c *impl.Cpu) { c.Said[0].Who = 0 },
	func(c *impl.Cpu) { c.Said[0].N = 0 },
	func(c *impl.Cpu) { c.Said[2].N = 1 },
	func(c *impl.Cpu) { c.Said = c.Said[:2] },
	func(c *impl.Cpu) { c.Said = append(c.Said, impl.Say{}) },
	func(c *impl.Cpu) { c.Said[1], c.Said[2] = c.Said[2], c.Said[1] },
	func(c *impl.Cpu) { c.Ran[0] = 5 },
	func(c *impl.Cpu) { c.Ran[2] = 5 },
	func(c *impl.Cpu) { c.Ran = c.Ran[:2] },
	func(c *impl.Cpu) { c.Ran = append(c.Ran, 0) },
	func(c *impl.Cpu) { c.Picks[1] = 7 },
	func(c *impl.Cpu) { c.Picks = c.Picks[:1] },
	func(c *impl.Cpu) { c.Picks = append(c.Picks, 0) },
	func(c *impl.Cpu) { c.Ran, c.Picks = c.Picks, c.Ran },
	func(c *impl.Cpu) { *c = impl.Cpu{} },
}

func TestCpuSameOfEveryField(t *testing.T) {
	for i, one := range cpuChanges {
		for j, other := range cpuChanges {
			a, b := turned(manyCpu(), one), turned(manyCpu(), other)
			if got := impl.CpuSame(a, b); got != (i == j) {
				t.Errorf("changes %d and %d: %v\n%s\n%s", i, j, got, shownCpu(a), shownCpu(b))
			}
		}
	}
}

func TestCpuSameOfEmptySlices(t *testing.T) {
	empty := impl.Cpu{Ctxs: []impl.Ctx{}, Cells: ints(), Rooms: []int{}, Lines: [][]int{}, Signs: [][]int{}, Ready: []int{}, Said: []impl.Say{}, Ran: []int{}, Picks: []int{}}
	if !impl.CpuSame(empty, impl.Cpu{}) || !impl.CpuSame(impl.Cpu{}, empty) || !impl.CpuTwin(empty, impl.World{}) {
		t.Error("a nil and an empty slice")
	}
	a := impl.Cpu{Ctxs: []impl.Ctx{{Regs: []int{}}}, Lines: [][]int{{}, nil}, Signs: [][]int{nil, {}}}
	b := impl.Cpu{Ctxs: []impl.Ctx{{}}, Lines: [][]int{nil, {}}, Signs: [][]int{{}, nil}}
	if !impl.CpuSame(a, b) || !impl.CpuSame(b, a) {
		t.Error("a nil and an empty slice further in")
	}
	if impl.CpuSame(a, impl.Cpu{}) || impl.CpuSame(impl.Cpu{}, idle(0, 0)) {
		t.Error("nothing and something")
	}
}

// twins are a processor and a configuration that agree, with a process of each mode. No program leads to them.
func twins() (impl.Cpu, impl.World) {
	c := manyCpu()
	c.Ctxs = nil
	w := impl.World{Cells: ints(1, -2000, 3, 4), Rooms: ints(3, 3, 3), Signs: [][]int{{0, 1, 1}, nil, {5}, {-1, 2}}, Said: []impl.Say{{Who: 8, N: 5000}, {Who: -1, N: 1}, {Who: 0, N: 0}}}
	for mode, twin := range []int{0, 1, 2, 0, 0, 0} {
		c.Ctxs = append(c.Ctxs, impl.Ctx{Regs: ints(mode, 1000, 7), Pc: 5, Mode: mode, On: mode - 3, Room: mode - 2})
		w.Procs = append(w.Procs, impl.Proc{Regs: ints(mode, 1000, 7), Todo: list(say(0)), Mode: twin, On: mode - 3, Room: mode - 2})
	}
	return c, w
}

// twinChange is one change, made to a processor and to a configuration.
type twinChange struct {
	cpu   func(c *impl.Cpu)
	world func(w *impl.World)
}

// twinChanges has those of a field of each process, and those of what the processes share.
func twinChanges() []twinChange {
	out := []twinChange{{func(c *impl.Cpu) {}, func(w *impl.World) {}}}
	add := func(cpu func(c *impl.Cpu), world func(w *impl.World)) { out = append(out, twinChange{cpu, world}) }
	for who := range 6 {
		add(func(c *impl.Cpu) { c.Ctxs[who].Regs[0]-- }, func(w *impl.World) { w.Procs[who].Regs[0]-- })
		add(func(c *impl.Cpu) { c.Ctxs[who].Regs[2]++ }, func(w *impl.World) { w.Procs[who].Regs[2]++ })
		add(func(c *impl.Cpu) { c.Ctxs[who].Regs = ints(who, 1000) }, func(w *impl.World) { w.Procs[who].Regs = ints(who, 1000) })
		add(func(c *impl.Cpu) { c.Ctxs[who].On = 5 }, func(w *impl.World) { w.Procs[who].On = 5 })
		add(func(c *impl.Cpu) { c.Ctxs[who].Room = 9 }, func(w *impl.World) { w.Procs[who].Room = 9 })
		if who != 1 {
			add(func(c *impl.Cpu) { c.Ctxs[who].Mode = 1 }, func(w *impl.World) { w.Procs[who].Mode = 1 })
		}
		if who != 2 {
			add(func(c *impl.Cpu) { c.Ctxs[who].Mode = 2 }, func(w *impl.World) { w.Procs[who].Mode = 2 })
		}
	}
	add(func(c *impl.Cpu) { c.Ctxs[1].Mode = 3 }, func(w *impl.World) { w.Procs[1].Mode = 0 })
	add(func(c *impl.Cpu) { c.Ctxs[2].Mode = 4 }, func(w *impl.World) { w.Procs[2].Mode = 0 })
	add(func(c *impl.Cpu) { c.Ctxs = c.Ctxs[:5] }, func(w *impl.World) { w.Procs = w.Procs[:5] })
	add(func(c *impl.Cpu) { c.Ctxs = append(c.Ctxs, impl.Ctx{}) }, func(w *impl.World) { w.Procs = append(w.Procs, impl.Proc{}) })
	add(func(c *impl.Cpu) { c.Ctxs = nil }, func(w *impl.World) { w.Procs = nil })
	add(func(c *impl.Cpu) { c.Cells[3]++ }, func(w *impl.World) { w.Cells[3]++ })
	add(func(c *impl.Cpu) { c.Cells = c.Cells[:3] }, func(w *impl.World) { w.Cells = w.Cells[:3] })
	add(func(c *impl.Cpu) { c.Rooms[0] = 0 }, func(w *impl.World) { w.Rooms[0] = 0 })
	add(func(c *impl.Cpu) { c.Rooms = nil }, func(w *impl.World) { w.Rooms = nil })
	add(func(c *impl.Cpu) { c.Signs[0][2] = 0 }, func(w *impl.World) { w.Signs[0][2] = 0 })
	add(func(c *impl.Cpu) { c.Signs[1] = ints(0) }, func(w *impl.World) { w.Signs[1] = ints(0) })
	add(func(c *impl.Cpu) { c.Signs = append(c.Signs, nil) }, func(w *impl.World) { w.Signs = append(w.Signs, nil) })
	add(func(c *impl.Cpu) { c.Said[0].Who = 0 }, func(w *impl.World) { w.Said[0].Who = 0 })
	add(func(c *impl.Cpu) { c.Said[2].N = 1 }, func(w *impl.World) { w.Said[2].N = 1 })
	add(func(c *impl.Cpu) { c.Said = c.Said[:2] }, func(w *impl.World) { w.Said = w.Said[:2] })
	return out
}

func TestCpuTwinOfEveryField(t *testing.T) {
	for i, one := range twinChanges() {
		for j, other := range twinChanges() {
			c, w := twins()
			one.cpu(&c)
			other.world(&w)
			if got := impl.CpuTwin(c, w); got != (i == j) {
				t.Errorf("changes %d and %d: %v\n%s\n%s", i, j, got, shownCpu(c), shown(w))
			}
		}
	}
}

// What only one of the two has does not count.
func TestCpuTwinOfOtherFields(t *testing.T) {
	for i, change := range []func(c *impl.Cpu, w *impl.World){
		func(c *impl.Cpu, w *impl.World) { c.Ctxs[0].Pc = 0 },
		func(c *impl.Cpu, w *impl.World) { c.Lines = nil },
		func(c *impl.Cpu, w *impl.World) { c.Lines[0][0] = 9 },
		func(c *impl.Cpu, w *impl.World) { c.Ready = nil },
		func(c *impl.Cpu, w *impl.World) { c.Left, c.Gap = 0, 0 },
		func(c *impl.Cpu, w *impl.World) { c.Ran, c.Picks = nil, ints(1) },
		func(c *impl.Cpu, w *impl.World) { w.Procs[0].Todo = nil },
		func(c *impl.Cpu, w *impl.World) { w.Procs[5].Todo = ring(0) },
	} {
		c, w := twins()
		change(&c, &w)
		if !impl.CpuTwin(c, w) {
			t.Errorf("change %d: %s\n%s", i, shownCpu(c), shown(impl.World{Cells: w.Cells}))
		}
	}
}

func TestCpuTwinOfAllModes(t *testing.T) {
	modes := []int{0, 1, 2, 3, 4, 5, 77, -1, -2, math.MaxInt, math.MinInt}
	for _, mode := range modes {
		for _, other := range modes {
			want := other == 0
			if mode == 1 || mode == 2 {
				want = other == mode
			}
			c := impl.Cpu{Ctxs: []impl.Ctx{{}, {Mode: mode}}}
			w := impl.World{Procs: []impl.Proc{{}, {Mode: other}}}
			if impl.CpuTwin(c, w) != want {
				t.Errorf("modes %d and %d: %v", mode, other, !want)
			}
		}
	}
}

func TestCpuTwinOfAnotherNumberOfProcesses(t *testing.T) {
	for many := range 6 {
		for other := range 6 {
			c, w := impl.Cpu{Ctxs: make([]impl.Ctx, many)}, impl.World{Procs: make([]impl.Proc, other)}
			if impl.CpuTwin(c, w) != (many == other) {
				t.Errorf("%d and %d processes", many, other)
			}
		}
	}
}

// crowded is a program and gaps with which the instructions put something into every slice of the processor.
func crowded(t *testing.T) ([][]impl.Stmt, []int) {
	t.Helper()
	p := program(t, "num 0 5 store 0 0 say 0 in 0 [ yield num 0 1 while 0 [ ] ]", "in 1 [ wait 1 ]")
	return append(p, program(t, "yield in 0 [ say 0 ]")[0]), ints(2, 5, 2)
}

func cpuPlaces(c impl.Cpu) []any {
	out := slices.Concat(places(c.Ctxs), places(c.Cells), places(c.Rooms), places(c.Lines), places(c.Signs), places(c.Ready), places(c.Said), places(c.Ran), places(c.Picks))
	for _, ctx := range c.Ctxs {
		out = append(out, places(ctx.Regs)...)
	}
	for _, queue := range slices.Concat(c.Lines, c.Signs) {
		out = append(out, places(queue)...)
	}
	return out
}

func TestCpuSharesNoMemory(t *testing.T) {
	p, gaps := crowded(t)
	all := slices.Concat(stmtPlaces(p[0]), stmtPlaces(p[1]), stmtPlaces(p[2]), places(p), places(gaps))
	full := false
	for fuel := range 91 {
		first, _ := impl.CpuRun(p, gaps, fuel)
		second, _ := impl.CpuRun(p, gaps, fuel)
		all = slices.Concat(all, cpuPlaces(first), cpuPlaces(second))
		full = full || len(first.Said) > 0 && len(first.Ready) > 0 && len(first.Lines[0]) > 0 && len(first.Signs[1]) > 0
	}
	if !full {
		t.Error("a slice is always empty")
	}
	checkApart(t, all)
}

// A result stays as it is when an argument or another result is changed behind the call.
func TestCpuResultsStay(t *testing.T) {
	p, gaps := crowded(t)
	first, _ := impl.CpuRun(p, gaps, 40)
	second, _ := impl.CpuRun(p, gaps, 40)
	want := shownCpu(first)
	for _, ctx := range second.Ctxs {
		clear(ctx.Regs)
	}
	for _, queue := range slices.Concat(second.Lines, second.Signs, [][]int{second.Cells, second.Rooms, second.Ready, second.Ran, second.Picks}) {
		clear(queue[:cap(queue)])
	}
	clear(second.Ctxs)
	clear(second.Said)
	clearProgram(p)
	clear(gaps)
	if shownCpu(first) != want {
		t.Error("a result has changed")
	}
}

func TestCpuChangesNoArgument(t *testing.T) {
	p, gaps := crowded(t)
	p = roomyProgram(p)
	gaps = roomy(gaps, 55)
	a, w := twins()
	a.Ctxs, w.Procs = roomy(a.Ctxs, impl.Ctx{Pc: 5}), roomy(w.Procs, impl.Proc{On: 5})
	look := func() string {
		all := fmt.Sprint(p[:cap(p)], gaps[:cap(gaps)], shownCpu(a), shown(w), a.Ctxs[:cap(a.Ctxs)], w.Procs[:cap(w.Procs)])
		for _, process := range p {
			all += fmt.Sprint(slicesOf(process))
		}
		return all
	}
	before := look()
	for fuel := range 91 {
		impl.CpuRun(p, gaps, fuel)
	}
	impl.GapsOk(gaps)
	impl.CpuSame(a, a)
	impl.CpuSame(a, manyCpu())
	impl.CpuTwin(a, w)
	if after := look(); after != before {
		t.Errorf("%s has become %s", before, after)
	}
}

// Whatever runs within a call has ended when it returns.
func TestCpuLeavesNothingRunning(t *testing.T) {
	p, gaps := crowded(t)
	// With one processor, a goroutine is not interrupted between its last word to the others and its end, or hardly
	// ever: so a few may be late, but not one in most of the calls.
	defer runtime.GOMAXPROCS(runtime.GOMAXPROCS(1))
	before := runtime.NumGoroutine()
	late := 0
	for fuel := range 91 {
		for _, texts := range [][][]impl.Stmt{p, p[:1], p[1:], nil, {nil, nil, nil}} {
			impl.CpuRun(texts, gaps, fuel)
			late += oneIf(runtime.NumGoroutine() > before)
		}
	}
	if late > 20 {
		t.Errorf("something still ran after %d calls", late)
	}
	for range 100 {
		if runtime.NumGoroutine() <= before {
			return
		}
		time.Sleep(10 * time.Millisecond)
	}
	t.Errorf("%d goroutines have become %d", before, runtime.NumGoroutine())
}

// Calls at the same time do not disturb each other, whatever the scheduler of the machine does.
func TestCpuAtTheSameTime(t *testing.T) {
	p, gaps := crowded(t)
	want := map[int]string{}
	for fuel := range 91 {
		c, how := impl.CpuRun(p, gaps, fuel)
		want[fuel] = fmt.Sprint(how, shownCpu(c))
	}
	var group sync.WaitGroup
	for range 16 {
		group.Go(func() {
			for fuel := range 91 {
				if c, how := impl.CpuRun(p, gaps, fuel); fmt.Sprint(how, shownCpu(c)) != want[fuel] {
					t.Errorf("fuel %d: %d, %s", fuel, how, shownCpu(c))
				}
			}
		})
	}
	group.Wait()
}
