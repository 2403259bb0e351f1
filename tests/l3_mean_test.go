package tests

import (
	"fmt"
	"iter"
	"math"
	"math/rand/v2"
	"reflect"
	"runtime"
	"runtime/debug"
	"slices"
	"testing"

	"loop.example/changeringer/impl"
)

// These tests hold promise 3: at most one process is inside of a monitor; waiting processes are signaled in FIFO
// order; and a step that is not possible changes nothing.

func TestMeanLimitsAndCodes(t *testing.T) {
	got := [...]int{impl.ProcRuns, impl.ProcWaits, impl.ProcBack, impl.StepFine, impl.StepDone, impl.StepHeld, impl.StepForm, impl.PickMost}
	if got != [...]int{0, 1, 2, 0, 1, 2, 3, 200} {
		t.Error(got)
	}
}

// Short ways to write programs and configurations.

func leave(a int) impl.Stmt { return impl.Stmt{Kind: impl.StmtLeave, A: a} }

func program(t *testing.T, texts ...string) [][]impl.Stmt {
	t.Helper()
	var p [][]impl.Stmt
	for _, text := range texts {
		process, ok := impl.StmtsRead(text)
		if !ok {
			t.Fatalf("%q is not read", text)
		}
		p = append(p, process)
	}
	return p
}

// runs is a process at its beginning, with that left to do.
func runs(todo ...impl.Stmt) impl.Proc {
	return impl.Proc{Regs: []int{0, 0, 0}, Todo: todo, Room: -1}
}

// regs is a process outside of all monitors with these registers.
func regs(a, b, c int, todo ...impl.Stmt) impl.Proc {
	return impl.Proc{Regs: []int{a, b, c}, Todo: todo, Room: -1}
}

// inside is a process that is in a monitor, or waits to be in it again, by its mode.
func inside(room, mode, on int, todo ...impl.Stmt) impl.Proc {
	return impl.Proc{Regs: []int{0, 0, 0}, Todo: todo, Mode: mode, On: on, Room: room}
}

// fresh is a configuration of these processes, and nothing else in it.
func fresh(procs ...impl.Proc) impl.World {
	return impl.World{Procs: procs, Cells: []int{0, 0, 0}, Rooms: []int{0, 0}, Signs: [][]int{nil, nil}}
}

func with(w impl.World, change func(*impl.World)) impl.World {
	change(&w)
	return w
}

func checkWorld(t *testing.T, got, want impl.World) {
	t.Helper()
	if shown(got) != shown(want) {
		t.Errorf("the configuration is\n%s, not\n%s", shown(got), shown(want))
	}
	if !impl.WorldSame(got, want) || !impl.WorldSame(want, got) {
		t.Errorf("WorldSame does not know\n%s", shown(got))
	}
}

// checkPlay plays up to each pick, so that what a step does that is not possible would be seen at that step.
func checkPlay(t *testing.T, p [][]impl.Stmt, picks, codes []int) impl.World {
	t.Helper()
	before := impl.MeanOpen(p)
	for i := range picks {
		w, got := impl.MeanPlay(p, picks[:i+1])
		if !slices.Equal(got, codes[:i+1]) {
			t.Fatalf("the codes of %v are %v, not %v", picks[:i+1], got, codes[:i+1])
		}
		if codes[i] != impl.StepFine && shown(w) != shown(before) {
			t.Errorf("step %d of %v has the code %d, and changes\n%s to\n%s", i, picks, codes[i], shown(before), shown(w))
		}
		checkMonitors(t, w)
		before = w
	}
	return before
}

// checkMonitors makes sure that the monitors, the queues and the processes tell the same.
func checkMonitors(t *testing.T, w impl.World) {
	t.Helper()
	for room, holder := range w.Rooms {
		count := 0
		for who, p := range w.Procs {
			if p.Room == room && p.Mode == impl.ProcRuns {
				count++
				if holder != 1+who {
					t.Errorf("process %d is inside of monitor %d without being its holder: %s", who, room, shown(w))
				}
			}
		}
		if count > 1 || count != min(holder, 1) {
			t.Errorf("monitor %d has %d processes inside: %s", room, count, shown(w))
		}
	}
	for who, p := range w.Procs {
		for sign, queue := range w.Signs {
			waits := p.Mode == impl.ProcWaits && p.On == sign
			if slices.Contains(queue, who) != waits {
				t.Errorf("process %d and the queue of signal %d: %s", who, sign, shown(w))
			}
		}
		if p.Mode != impl.ProcWaits && p.On != 0 || p.Mode != impl.ProcRuns && p.Room < 0 {
			t.Errorf("process %d: %s", who, shown(w))
		}
	}
}

func checkCan(t *testing.T, p [][]impl.Stmt, picks []int, want ...int) {
	t.Helper()
	if got := impl.MeanCan(p, picks); !slices.Equal(got, want) {
		t.Errorf("after %v, %v can go on, not %v", picks, got, want)
	}
}

func fine(n int) []int { return make([]int, n) }

func TestMeanOpen(t *testing.T) {
	lists := [][]impl.Stmt{list(num(0, -5), say(0)), nil, list(in(1, wait(1), choose(0, list(say(0)), list(yields()))))}
	checkWorld(t, impl.MeanOpen(lists[:1]), fresh(runs(lists[0]...)))
	checkWorld(t, impl.MeanOpen(lists[:2]), fresh(runs(lists[0]...), runs()))
	checkWorld(t, impl.MeanOpen(lists), fresh(runs(lists[0]...), runs(), runs(lists[2]...)))
	checkWorld(t, impl.MeanOpen(lists[1:2]), fresh(runs()))
}

func TestNoPicks(t *testing.T) {
	for _, p := range [][][]impl.Stmt{{nil}, program(t, "say 0"), program(t, "say 0", "-"), program(t, "in 0 [ ]", "in 0 [ wait 1 ]", "yield")} {
		for _, picks := range [][]int{nil, {}} {
			w, codes := impl.MeanPlay(p, picks)
			checkWorld(t, w, impl.MeanOpen(p))
			if len(codes) != 0 {
				t.Error(codes)
			}
		}
	}
}

// TestEachKindOnce executes a statement of each kind behind others that make its effect seen.
func TestEachKindOnce(t *testing.T) {
	five := []impl.Say{{Who: 0, N: 5}}
	cells := func(a, b, c int) func(*impl.World) {
		return func(w *impl.World) { w.Cells = []int{a, b, c} }
	}
	for _, c := range []struct {
		text  string
		steps int
		want  impl.World
	}{
		{"num 1 -7 yield", 1, fresh(regs(0, -7, 0, yields()))},
		{"num 0 5 num 0 6", 2, fresh(regs(6, 0, 0))},
		{"num 0 5 num 1 3 add 0 1", 3, fresh(regs(8, 3, 0))},
		{"num 0 5 num 1 3 sub 0 1", 3, fresh(regs(2, 3, 0))},
		{"num 0 5 num 1 3 sub 1 0", 3, fresh(regs(5, -2, 0))},
		{"num 0 5 num 2 3 mul 2 0", 3, fresh(regs(5, 0, 15))},
		{"num 0 5 num 1 3 less 1 0", 3, fresh(regs(5, 1, 0))},
		{"num 0 5 num 1 3 less 0 1", 3, fresh(regs(0, 3, 0))},
		{"num 0 5 num 1 5 same 0 1", 3, fresh(regs(1, 5, 0))},
		{"num 0 5 num 1 3 same 0 1", 3, fresh(regs(0, 3, 0))},
		{"num 1 4 add 1 1", 2, fresh(regs(0, 8, 0))},
		{"num 1 5 store 2 1 yield", 2, with(fresh(regs(0, 5, 0, yields())), cells(0, 0, 5))},
		{"num 1 5 store 0 1 load 2 0", 3, with(fresh(regs(0, 5, 5)), cells(5, 0, 0))},
		{"num 1 5 store 1 1 load 1 0", 3, with(fresh(regs(0, 0, 0)), cells(0, 5, 0))},
		{"num 2 5 say 2", 2, with(fresh(regs(0, 0, 5)), func(w *impl.World) { w.Said = five })},
		{"num 0 1 if 0 [ say 0 yield ] [ say 1 ] say 2", 2, fresh(regs(1, 0, 0, say(0), yields(), say(2)))},
		{"if 0 [ say 0 yield ] [ say 1 ] say 2", 1, fresh(runs(say(1), say(2)))},
		{"num 0 1 while 0 [ say 0 yield ] say 2", 2, fresh(regs(1, 0, 0, say(0), yields(), while(0, say(0), yields()), say(2)))},
		{"while 0 [ say 0 yield ] say 2", 1, fresh(runs(say(2)))},
		{"in 1 [ say 0 yield ] say 2", 1, with(fresh(inside(1, 0, 0, say(0), yields(), leave(1), say(2))), func(w *impl.World) { w.Rooms = []int{0, 1} })},
		{"in 1 [ ] say 2", 2, fresh(runs(say(2)))},
		{"in 0 [ wait 1 say 1 ] say 2", 2, with(fresh(inside(0, 1, 1, say(1), leave(0), say(2))), func(w *impl.World) { w.Signs = [][]int{nil, {0}} })},
		{"signal 1 say 2", 1, fresh(runs(say(2)))},
		{"yield say 2", 1, fresh(runs(say(2)))},
	} {
		checkWorld(t, checkPlay(t, program(t, c.text), fine(c.steps), fine(c.steps)), c.want)
		if t.Failed() {
			t.Fatalf("%q", c.text)
		}
	}
}

func TestProcessesHaveTheirOwnRegistersAndShareCells(t *testing.T) {
	p := program(t, "num 0 1 store 0 0 load 1 1", "num 0 2 store 1 0 load 1 0", "num 0 3 store 2 0 load 1 1")
	picks := []int{2, 0, 1, 1, 2, 0, 0, 1, 2}
	want := with(fresh(regs(1, 2, 0), regs(2, 1, 0), regs(3, 2, 0)), func(w *impl.World) { w.Cells = []int{1, 2, 3} })
	checkWorld(t, checkPlay(t, p, picks, fine(9)), want)
}

func TestOutputOfSeveralProcesses(t *testing.T) {
	p := program(t, "num 0 1 say 0 say 1", "num 0 2 say 0 say 0", "say 0 num 0 3 say 0")
	w := checkPlay(t, p, []int{2, 1, 0, 1, 0, 2, 1, 0, 2}, fine(9))
	want := []impl.Say{{Who: 2, N: 0}, {Who: 1, N: 2}, {Who: 0, N: 1}, {Who: 1, N: 2}, {Who: 0, N: 0}, {Who: 2, N: 3}}
	if !slices.Equal(w.Said, want) {
		t.Error(w.Said)
	}
	for who, numbers := range map[int][]int{0: {1, 0}, 1: {2, 2}, 2: {0, 3}, 3: nil, -1: nil} {
		if got := impl.SaidBy(w.Said, who); !slices.Equal(got, numbers) {
			t.Errorf("process %d wrote %v, not %v", who, got, numbers)
		}
	}
}

// TestWaitAndComeBack follows a process that waits through all its modes.
func TestWaitAndComeBack(t *testing.T) {
	p := program(t, "in 1 [ wait 1 say 0 ] yield", "in 1 [ signal 1 ]")
	held := impl.StepHeld
	picks := []int{0, 0, 0, 1, 0, 1, 0, 1, 0, 0, 0, 0, 0, 1}
	codes := []int{0, 0, held, 0, held, 0, held, 0, 0, 0, 0, 0, impl.StepDone, impl.StepDone}
	checkPlay(t, p, picks, codes)
	at := func(steps int) impl.World {
		w, _ := impl.MeanPlay(p, picks[:steps])
		return w
	}
	free := func(w *impl.World) { w.Rooms = []int{0, 0} }
	room := func(holder int, queue ...int) func(*impl.World) {
		return func(w *impl.World) { w.Rooms, w.Signs = []int{0, holder}, [][]int{nil, queue} }
	}
	other := runs(in(1, signal(1)))
	checkWorld(t, at(1), with(fresh(inside(1, 0, 0, wait(1), say(0), leave(1), yields()), other), room(1)))
	checkWorld(t, at(2), with(fresh(inside(1, 1, 1, say(0), leave(1), yields()), other), room(0, 0)))
	checkWorld(t, at(4), with(fresh(inside(1, 1, 1, say(0), leave(1), yields()), inside(1, 0, 0, signal(1), leave(1))), room(2, 0)))
	checkWorld(t, at(6), with(fresh(inside(1, 2, 0, say(0), leave(1), yields()), inside(1, 0, 0, leave(1))), room(2)))
	checkWorld(t, at(8), with(fresh(inside(1, 2, 0, say(0), leave(1), yields()), runs()), free))
	checkWorld(t, at(9), with(fresh(inside(1, 0, 0, say(0), leave(1), yields()), runs()), room(1)))
	said := func(w *impl.World) { w.Said = []impl.Say{{Who: 0, N: 0}} }
	checkWorld(t, at(10), with(with(fresh(inside(1, 0, 0, leave(1), yields()), runs()), room(1)), said))
	checkWorld(t, at(11), with(fresh(runs(yields()), runs()), said))
	checkWorld(t, at(14), with(fresh(runs(), runs()), said))
}

func TestNoSuchProcess(t *testing.T) {
	form := impl.StepForm
	for many, p := range [][][]impl.Stmt{1: program(t, "say 0"), 2: program(t, "say 0", "-"), 3: program(t, "say 0", "in 0 [ wait 0 ]", "yield")} {
		if many == 0 {
			continue
		}
		for _, who := range []int{-1, many, many + 1, -many, 200, math.MinInt, math.MaxInt, math.MinInt32, 1 << 32, -1 << 32} {
			checkPlay(t, p, []int{who, who, 0, who, 0}, []int{form, form, 0, form, impl.StepDone})
		}
	}
	// All are held, and that there is no such process still comes first.
	checkPlay(t, program(t, "in 0 [ wait 0 ]"), []int{0, 0, -1, 1, 0}, []int{0, 0, form, form, impl.StepHeld})
}

// A waiting process is held whether its monitor is free or not.
func TestHeldWhileWaiting(t *testing.T) {
	held := impl.StepHeld
	p := program(t, "in 0 [ wait 0 ]", "in 0 [ yield ] yield", "in 1 [ signal 1 ]")
	picks := []int{0, 0, 0, 1, 0, 1, 0, 1, 0, 1, 0, 2, 0, 2, 0, 2, 0}
	w := checkPlay(t, p, picks, []int{0, 0, held, 0, held, 0, held, 0, held, 0, held, 0, held, 0, held, 0, held})
	checkWorld(t, w, with(fresh(inside(0, 1, 0, leave(0)), runs(), runs()), func(w *impl.World) { w.Signs = [][]int{{0}, nil} }))
	checkCan(t, p, picks)
}

// comesBack is a process that was signaled, while process 1 is inside of its monitor with work left.
func comesBack(t *testing.T) ([][]impl.Stmt, []int) {
	p := program(t, "in 0 [ wait 1 say 0 ]", "in 0 [ signal 1 yield yield ] yield", "in 0 [ yield ]")
	picks := []int{0, 0, 1, 1}
	checkPlay(t, p, picks, fine(4))
	checkCan(t, p, picks, 1)
	return p, picks
}

func TestComesBackToATakenMonitor(t *testing.T) {
	held := impl.StepHeld
	p, picks := comesBack(t)
	w := checkPlay(t, p, append(picks, 0, 1, 0, 1, 0, 1, 0), []int{0, 0, 0, 0, held, 0, held, 0, held, 0, 0})
	want := fresh(inside(0, 0, 0, say(0), leave(0)), runs(yields()), runs(in(0, yields())))
	checkWorld(t, w, with(want, func(w *impl.World) { w.Rooms = []int{1, 0} }))
}

// While a process is in the mode ProcBack, others may still get ahead of it.
func TestComesBackBehindAThirdProcess(t *testing.T) {
	held := impl.StepHeld
	p, picks := comesBack(t)
	picks = append(picks, 2, 1, 1, 1, 2, 0, 2, 0, 2, 0, 2)
	w := checkPlay(t, p, picks, []int{0, 0, 0, 0, held, 0, 0, 0, 0, held, 0, held, 0, 0, impl.StepDone})
	want := fresh(inside(0, 0, 0, say(0), leave(0)), runs(yields()), runs())
	checkWorld(t, w, with(want, func(w *impl.World) { w.Rooms = []int{1, 0} }))
}

// The one inside may also leave by waiting.
func TestComesBackWhenTheOtherWaits(t *testing.T) {
	held := impl.StepHeld
	p := program(t, "in 1 [ wait 0 signal 1 ]", "in 1 [ signal 0 wait 1 ] yield")
	picks := []int{0, 0, 1, 1, 0, 1, 1, 0, 0, 1, 0, 1, 1, 1, 0, 1}
	codes := []int{0, 0, 0, 0, held, 0, held, 0, 0, held, 0, 0, 0, 0, impl.StepDone, impl.StepDone}
	checkWorld(t, checkPlay(t, p, picks, codes), fresh(runs(), runs()))
}

// Two are back and go in one behind the other, whoever was signaled first.
func TestTwoComeBack(t *testing.T) {
	held := impl.StepHeld
	p := program(t, "in 0 [ wait 0 ]", "in 0 [ wait 0 ]", "signal 0 signal 0")
	start := []int{0, 0, 1, 1, 2, 2}
	for first := range 2 {
		second := 1 - first
		picks := append(slices.Clone(start), first, second, first, second, first, second, second)
		checkPlay(t, p, picks, append(fine(6), 0, held, 0, 0, impl.StepDone, 0, impl.StepDone))
		checkCan(t, p, picks[:6], 0, 1)
		checkCan(t, p, picks[:7], first)
	}
}

func TestDone(t *testing.T) {
	done := impl.StepDone
	p := program(t, "-", "yield", "in 0 [ ]")
	w := checkPlay(t, p, []int{0, 1, 1, 0, 2, 2, 2, 0}, []int{done, 0, done, done, 0, 0, done, done})
	checkWorld(t, w, fresh(runs(), runs(), runs()))
	checkPlay(t, [][]impl.Stmt{nil}, []int{0, 0}, []int{done, done})
	checkPlay(t, [][]impl.Stmt{{}, {}}, []int{0, 1}, []int{done, done})
	// What an if or a while leaves may be nothing.
	checkPlay(t, program(t, "if 0 [ say 0 ] [ ]", "while 0 [ say 0 ]"), []int{0, 0, 1, 1}, []int{0, done, 0, done})
}

func TestMonitorIsTaken(t *testing.T) {
	held := impl.StepHeld
	for a := range 2 {
		p := [][]impl.Stmt{list(in(a, yields()), say(0)), list(in(a)), list(in(1 - a))}
		picks := []int{0, 1, 2, 1, 0, 1, 0, 1, 0, 1, 2}
		w := checkPlay(t, p, picks, []int{0, held, 0, held, 0, held, 0, 0, 0, 0, 0})
		checkWorld(t, w, with(fresh(runs(), runs(), runs()), func(w *impl.World) { w.Said = []impl.Say{{}} }))
		checkCan(t, p, picks[:3], 0, 2)
		checkCan(t, p, picks[:7], 0, 1, 2)
		checkCan(t, p, picks[:8], 0, 1, 2)
	}
}

// A process that waits has left its monitor, so that another one may enter.
func TestMonitorIsFreeWhileItsProcessWaits(t *testing.T) {
	p := program(t, "in 0 [ wait 0 ]", "in 0 [ wait 1 ]", "in 0 [ wait 0 ]")
	w := checkPlay(t, p, []int{2, 2, 1, 1, 0, 0}, fine(6))
	want := fresh(inside(0, 1, 0, leave(0)), inside(0, 1, 1, leave(0)), inside(0, 1, 0, leave(0)))
	checkWorld(t, w, with(want, func(w *impl.World) { w.Signs = [][]int{{2, 0}, {1}} }))
	checkCan(t, p, []int{2, 2, 1, 1, 0, 0})
}

func TestSignalWithoutAnybody(t *testing.T) {
	p := program(t, "in 0 [ signal 0 signal 1 ] signal 0", "in 0 [ wait 0 ]")
	w := checkPlay(t, p, []int{0, 0, 0, 0, 0}, fine(5))
	checkWorld(t, w, fresh(runs(), runs(in(0, wait(0)))))
	// It is not kept for one that waits later.
	checkPlay(t, p, []int{0, 0, 0, 0, 0, 1, 1, 1}, append(fine(7), impl.StepHeld))
}

func TestSignalWakesTheFirstAlone(t *testing.T) {
	for a := range 2 {
		for first := range 2 {
			second := 1 - first
			p := [][]impl.Stmt{list(in(0, wait(a))), list(in(1, wait(a))), list(signal(1-a), signal(a), signal(a), signal(a))}
			picks := []int{first, first, second, second, 2, 2, 2, 2}
			queues := [][]int{{first, second}, {first, second}, {second}, {}, {}}
			for i, queue := range queues {
				w := checkPlay(t, p, picks[:4+i], fine(4+i))
				if !slices.Equal(w.Signs[a], queue) || len(w.Signs[1-a]) != 0 {
					t.Errorf("after %v, the queues are %v", picks[:4+i], w.Signs)
				}
				for _, who := range []int{first, second} {
					want := inside(who, impl.ProcBack, 0, leave(who))
					if slices.Contains(queue, who) {
						want = inside(who, impl.ProcWaits, a, leave(who))
					}
					if !reflect.DeepEqual(w.Procs[who], want) {
						t.Errorf("after %v, process %d is %v, not %v", picks[:4+i], who, w.Procs[who], want)
					}
				}
			}
		}
	}
}

func TestSignalLeavesTheOtherQueue(t *testing.T) {
	for a := range 2 {
		p := [][]impl.Stmt{list(in(0, wait(0))), list(in(0, wait(1))), list(signal(a))}
		w := checkPlay(t, p, []int{0, 0, 1, 1, 2}, fine(5))
		if len(w.Signs[a]) != 0 || !slices.Equal(w.Signs[1-a], []int{1 - a}) {
			t.Error(w.Signs)
		}
		if w.Procs[a].Mode != impl.ProcBack || w.Procs[1-a].Mode != impl.ProcWaits || w.Procs[1-a].On != 1-a {
			t.Error(shown(w))
		}
	}
}

// One that waits again goes to the end of the queue.
func TestQueuesAreFirstInFirstOut(t *testing.T) {
	p := program(t, "in 0 [ wait 1 wait 1 ]", "in 0 [ wait 1 wait 1 ]", "signal 1 signal 1 signal 1 signal 1")
	picks := []int{1, 1, 0, 0, 2, 1, 1, 2, 0, 0, 2, 2}
	queues := map[int][]int{2: {1}, 4: {1, 0}, 5: {0}, 6: {0}, 7: {0, 1}, 8: {1}, 10: {1, 0}, 11: {0}, 12: {}}
	for steps, queue := range queues {
		if w := checkPlay(t, p, picks[:steps], fine(steps)); !slices.Equal(w.Signs[1], queue) {
			t.Errorf("after %v, the queue is %v, not %v", picks[:steps], w.Signs[1], queue)
		}
	}
}

var turns = []int{0, 1, -1, 2, 999, -999}

func TestIf(t *testing.T) {
	bodies := [][]impl.Stmt{nil, list(yields(), say(1)), list(choose(1, list(yields()), list(say(2))))}
	for _, n := range turns {
		for _, body := range bodies {
			for _, other := range bodies {
				p := [][]impl.Stmt{list(num(1, n), choose(1, body, other), say(0))}
				taken := other
				if n != 0 {
					taken = body
				}
				checkWorld(t, checkPlay(t, p, fine(2), fine(2)), fresh(regs(0, n, 0, append(copied(taken), say(0))...)))
			}
		}
	}
}

func TestWhile(t *testing.T) {
	for _, n := range turns {
		for _, body := range [][]impl.Stmt{nil, list(yields(), say(1)), list(while(0, yields()), choose(1, nil, list(say(2))))} {
			p := [][]impl.Stmt{list(num(2, n), while(2, body...), say(0))}
			todo := list(say(0))
			if n != 0 {
				todo = slices.Concat(body, list(while(2, body...)), todo)
			}
			checkWorld(t, checkPlay(t, p, fine(2), fine(2)), fresh(regs(0, 0, n, todo...)))
		}
	}
	// With an empty Body it goes on forever, a step at a time.
	w, codes := impl.MeanPlay(program(t, "num 0 -1 while 0 [ ] say 0"), fine(200))
	checkWorld(t, w, fresh(regs(-1, 0, 0, while(0), say(0))))
	if !slices.Equal(codes, fine(200)) {
		t.Error(codes)
	}
}

func TestWhileTurnsItsRegister(t *testing.T) {
	count := program(t, "num 0 3 num 1 1 while 0 [ say 0 sub 0 1 ]")
	w := checkPlay(t, count, fine(14), append(fine(12), impl.StepDone, impl.StepDone))
	if got := impl.SaidBy(w.Said, 0); !slices.Equal(got, []int{3, 2, 1}) {
		t.Error(got)
	}
	// The body is executed to its end, though the register is 0 before.
	once := program(t, "num 0 -4 while 0 [ num 0 0 say 0 say 1 ] yield")
	w = checkPlay(t, once, fine(8), append(fine(7), impl.StepDone))
	if got := impl.SaidBy(w.Said, 0); !slices.Equal(got, []int{0, 0}) {
		t.Error(got)
	}
	// Another process turns a cell to end the loop.
	other := program(t, "num 0 1 while 0 [ load 0 1 ] say 0", "num 0 1 store 1 0 num 0 0 store 1 0")
	w = checkPlay(t, other, []int{1, 1, 0, 0, 0, 0, 0, 0, 1, 1, 0, 0, 0, 0, 0}, append(fine(13), impl.StepDone, impl.StepDone))
	checkWorld(t, w, with(fresh(runs(), runs()), func(w *impl.World) { w.Said = []impl.Say{{}} }))
	nested := program(t, "num 0 2 num 2 1 while 0 [ num 1 2 while 1 [ say 1 sub 1 2 ] sub 0 2 ]")
	w, _ = impl.MeanPlay(nested, fine(60))
	if got := impl.SaidBy(w.Said, 0); !slices.Equal(got, []int{2, 1, 2, 1}) || len(w.Procs[0].Todo) != 0 {
		t.Error(shown(w))
	}
}

func TestMonitorWithAnEmptyBody(t *testing.T) {
	for a := range 2 {
		p := [][]impl.Stmt{list(in(a)), list(in(a), yields())}
		rooms := func(w *impl.World) { w.Rooms[a] = 2 }
		checkWorld(t, checkPlay(t, p, []int{1, 0}, []int{0, impl.StepHeld}), with(fresh(runs(in(a)), inside(a, 0, 0, leave(a), yields())), rooms))
		checkWorld(t, checkPlay(t, p, []int{1, 1}, fine(2)), fresh(runs(in(a)), runs(yields())))
	}
}

// A monitor in a loop is entered and left each time.
func TestMonitorInALoop(t *testing.T) {
	p := program(t, "num 0 1 while 0 [ in 1 [ yield ] ]", "in 1 [ ]")
	w := checkPlay(t, p, []int{0, 0, 0, 1, 0, 0, 0, 0, 1, 0, 0, 1, 1}, []int{0, 0, 0, impl.StepHeld, 0, 0, 0, 0, impl.StepHeld, 0, 0, 0, 0})
	checkWorld(t, w, fresh(regs(1, 0, 0, while(0, in(1, yields()))), runs()))
}

func TestRegistersSaturate(t *testing.T) {
	for text, want := range map[string]int{
		"num 0 999 num 1 1 add 0 1":    999,
		"num 0 998 num 1 1 add 0 1":    999,
		"num 0 -999 num 1 -1 add 0 1":  -999,
		"num 0 -999 num 1 1 sub 0 1":   -999,
		"num 0 999 num 1 -999 sub 0 1": 999,
		"num 0 500 num 1 2 mul 0 1":    999,
		"num 0 -500 num 1 2 mul 0 1":   -999,
		"num 0 500 num 1 500 add 0 0":  999,
		"num 0 -40 num 1 0 mul 0 0":    999,
	} {
		p := program(t, text+" store 1 0 say 0")
		w := checkPlay(t, p, fine(5), fine(5))
		if w.Procs[0].Regs[0] != want || w.Cells[1] != want || w.Said[0].N != want {
			t.Errorf("%q: %s", text, shown(w))
		}
	}
}

func TestMostPicks(t *testing.T) {
	p := program(t, "num 0 1 while 0 [ say 0 ]", "yield")
	zero := shown(impl.World{})
	for who, can := range map[int][]int{0: {0, 1}, 1: {0}, 2: {0, 1}, -1: {0, 1}} {
		picks := slices.Repeat([]int{who}, 201)
		w, codes := impl.MeanPlay(p, picks[:200])
		if len(codes) != 200 || len(w.Procs) != 2 {
			t.Errorf("200 picks of %d: %v, %s", who, codes, shown(w))
		}
		checkCan(t, p, picks[:200], can...)
		if w, codes := impl.MeanPlay(p, picks); len(codes) != 0 || shown(w) != zero {
			t.Errorf("201 picks of %d: %v, %s", who, codes, shown(w))
		}
		checkCan(t, p, picks)
	}
	if w, _ := impl.MeanPlay(p, fine(200)); len(w.Said) != 99 {
		t.Errorf("%d numbers are written in 200 steps", len(w.Said))
	}
	if w, codes := impl.MeanPlay(p, fine(5000)); len(codes) != 0 || shown(w) != zero {
		t.Error("5000 picks")
	}
}

func TestCan(t *testing.T) {
	all := program(t, "yield", "in 0 [ ]", "signal 0")
	checkCan(t, all, nil, 0, 1, 2)
	checkCan(t, all, []int{}, 0, 1, 2)
	checkCan(t, all, []int{-1, 3}, 0, 1, 2)
	checkCan(t, all, []int{0}, 1, 2)
	checkCan(t, all, []int{1}, 0, 1, 2)
	checkCan(t, all, []int{1, 1}, 0, 2)
	checkCan(t, all, []int{2, 0, 1, 1})
	checkCan(t, [][]impl.Stmt{nil, nil, nil}, nil)
	checkCan(t, [][]impl.Stmt{nil, list(yields()), nil}, nil, 1)
	rooms := program(t, "in 0 [ yield ]", "in 0 [ yield ]", "in 0 [ yield ]")
	checkCan(t, rooms, nil, 0, 1, 2)
	checkCan(t, rooms, []int{1}, 1)
	checkCan(t, rooms, []int{1, 1, 1}, 0, 2)
}

// invalidPrograms holds what no function of the chapter takes for a program.
func invalidPrograms() map[string][][]impl.Stmt {
	good := list(say(0))
	loop := list(while(0))
	loop[0].Body = loop
	return map[string][][]impl.Stmt{
		"nil":              nil,
		"empty":            {},
		"four":             {good, good, good, good},
		"zero statement":   {good, {{}}},
		"leave":            {list(in(0), leave(0))},
		"leave within":     {list(in(0, leave(0)))},
		"wait outside":     {good, good, list(wait(0))},
		"nested monitors":  {list(in(0, in(1)))},
		"register":         {list(say(3))},
		"cell":             {good, list(load(0, 3))},
		"fifteen":          {repeat(yields(), 15)},
		"deep":             {list(while(0, while(0, while(0, yields()))))},
		"loop":             {good, loop},
		"first is invalid": {list(num(0, 1000)), good, good},
	}
}

func TestInvalidPrograms(t *testing.T) {
	zero := shown(impl.World{})
	for name, p := range invalidPrograms() {
		if w := impl.MeanOpen(p); shown(w) != zero || !impl.WorldSame(w, impl.World{}) {
			t.Errorf("%s: MeanOpen is %s", name, shown(w))
		}
		for _, picks := range [][]int{nil, {0}, {0, 0, 1, -1}, fine(200), fine(201)} {
			if w, codes := impl.MeanPlay(p, picks); shown(w) != zero || len(codes) != 0 {
				t.Errorf("%s: MeanPlay is %s, %v", name, shown(w), codes)
			}
			checkCan(t, p, picks)
		}
	}
}

// many is a configuration in which every slice holds something. No program leads to it.
func many() impl.World {
	todo := func() []impl.Stmt {
		return list(impl.Stmt{Kind: 6, A: 1, B: 2, N: 3, Body: list(while(1, num(0, 5), say(2))), Else: list(while(2, yields()))}, leave(1), say(0))
	}
	return impl.World{
		Procs: []impl.Proc{{Regs: []int{1, 2, 3, 4}, Todo: todo(), Mode: 9, On: -3, Room: 7}, {Regs: []int{5}, Todo: todo(), Mode: 1, On: 1, Room: 1}, {}},
		Cells: []int{1, -2000, 3, 4},
		Rooms: []int{3, 3, 3},
		Signs: [][]int{{0, 1, 1}, nil, {5}, {-1, 2}},
		Said:  []impl.Say{{Who: 8, N: 5000}, {Who: -1, N: 1}, {Who: 0, N: 0}},
	}
}

// changes each alter one field of many, or a length.
var changes = []func(w *impl.World){
	func(w *impl.World) {},
	func(w *impl.World) { w.Procs = w.Procs[:2] },
	func(w *impl.World) { w.Procs = append(w.Procs, impl.Proc{}) },
	func(w *impl.World) { w.Procs = nil },
	func(w *impl.World) { w.Procs[0], w.Procs[1] = w.Procs[1], w.Procs[0] },
	func(w *impl.World) { w.Procs[0].Regs[3]++ },
	func(w *impl.World) { w.Procs[1].Regs[0]++ },
	func(w *impl.World) { w.Procs[0].Regs = w.Procs[0].Regs[:3] },
	func(w *impl.World) { w.Procs[2].Regs = []int{0} },
	func(w *impl.World) { w.Procs[0].Mode = 8 },
	func(w *impl.World) { w.Procs[0].On = 3 },
	func(w *impl.World) { w.Procs[0].Room = 0 },
	func(w *impl.World) { w.Procs[1].Mode = 2 },
	func(w *impl.World) { w.Procs[1].On = 0 },
	func(w *impl.World) { w.Procs[1].Room = -1 },
	func(w *impl.World) { w.Procs[2].Room = -1 },
	func(w *impl.World) { w.Procs[0].Todo = nil },
	func(w *impl.World) { w.Procs[0].Todo = w.Procs[0].Todo[:2] },
	func(w *impl.World) { w.Procs[0].Todo = w.Procs[0].Todo[1:] },
	func(w *impl.World) { w.Procs[2].Todo = list(impl.Stmt{}) },
	func(w *impl.World) { w.Procs[0].Todo[0].Kind = 13 },
	func(w *impl.World) { w.Procs[0].Todo[0].A = -1 },
	func(w *impl.World) { w.Procs[0].Todo[0].B = 0 },
	func(w *impl.World) { w.Procs[0].Todo[0].N = 0 },
	func(w *impl.World) { w.Procs[0].Todo[1].A = 0 },
	func(w *impl.World) { w.Procs[0].Todo[1].Kind = 11 },
	func(w *impl.World) { w.Procs[0].Todo[1].Body = list(yields()) },
	func(w *impl.World) { w.Procs[0].Todo[1].Else = list(yields()) },
	func(w *impl.World) { w.Procs[0].Todo[2].N = 1 },
	func(w *impl.World) { w.Procs[1].Todo[2].N = 1 },
	func(w *impl.World) { w.Procs[0].Todo[0].Body = nil },
	func(w *impl.World) { w.Procs[0].Todo[0].Else = nil },
	func(w *impl.World) {
		s := &w.Procs[0].Todo[0]
		s.Body, s.Else = s.Else, s.Body
	},
	func(w *impl.World) { w.Procs[0].Todo[0].Body[0].A = 0 },
	func(w *impl.World) { w.Procs[0].Todo[0].Else[0].A = 0 },
	func(w *impl.World) { w.Procs[0].Todo[0].Body[0].Body[0].N = 6 },
	func(w *impl.World) { w.Procs[0].Todo[0].Body[0].Body[1].B = 1 },
	func(w *impl.World) { w.Procs[0].Todo[0].Else[0].Body[0].A = 1 },
	func(w *impl.World) { w.Procs[0].Todo[0].Else[0].Body[0].Kind = 0 },
	func(w *impl.World) { w.Procs[0].Todo[0].Else[0].Body[0].Else = list(yields()) },
	func(w *impl.World) { w.Procs[1].Todo[0].Else[0].Body[0].Body = list(while(0, while(0, yields()))) },
	func(w *impl.World) { w.Procs[1].Todo[0].Else[0].Body[0].Body = list(while(0, while(0, say(0)))) },
	func(w *impl.World) { w.Procs[1].Todo[0].Else[0].Body[0].Body = list(while(0, while(0))) },
	func(w *impl.World) { w.Cells[0]++ },
	func(w *impl.World) { w.Cells[3]++ },
	func(w *impl.World) { w.Cells = w.Cells[:3] },
	func(w *impl.World) { w.Cells = append(w.Cells, 0) },
	func(w *impl.World) { w.Rooms[0] = 0 },
	func(w *impl.World) { w.Rooms[2] = 0 },
	func(w *impl.World) { w.Rooms = w.Rooms[:2] },
	func(w *impl.World) { w.Rooms = nil },
	func(w *impl.World) { w.Signs[0][0] = 1 },
	func(w *impl.World) { w.Signs[0] = w.Signs[0][:2] },
	func(w *impl.World) { w.Signs[1] = []int{0} },
	func(w *impl.World) { w.Signs[3][1] = -2 },
	func(w *impl.World) { w.Signs = w.Signs[:3] },
	func(w *impl.World) { w.Signs = append(w.Signs, nil) },
	func(w *impl.World) { w.Said[0].Who = 0 },
	func(w *impl.World) { w.Said[0].N = 0 },
	func(w *impl.World) { w.Said[2].N = 1 },
	func(w *impl.World) { w.Said[2].Who = 1 },
	func(w *impl.World) { w.Said = w.Said[:2] },
	func(w *impl.World) { w.Said = append(w.Said, impl.Say{}) },
	func(w *impl.World) { w.Said[1], w.Said[2] = w.Said[2], w.Said[1] },
	func(w *impl.World) { *w = impl.World{} },
}

func TestWorldSameOfEveryField(t *testing.T) {
	for i, one := range changes {
		for j, other := range changes {
			a, b := many(), many()
			one(&a)
			other(&b)
			if got := impl.WorldSame(a, b); got != (i == j) {
				t.Errorf("changes %d and %d: %v\n%s\n%s", i, j, got, shown(a), shown(b))
			}
		}
	}
}

func TestWorldSameOfEmptySlices(t *testing.T) {
	empty := impl.World{Procs: []impl.Proc{}, Cells: []int{}, Rooms: []int{}, Signs: [][]int{}, Said: []impl.Say{}}
	if !impl.WorldSame(empty, impl.World{}) || !impl.WorldSame(impl.World{}, empty) || !impl.WorldSame(empty, empty) {
		t.Error("a nil and an empty slice")
	}
	a := impl.World{Procs: []impl.Proc{{Regs: []int{}, Todo: list(impl.Stmt{Body: list()})}}, Signs: [][]int{{}}}
	b := impl.World{Procs: []impl.Proc{{Todo: list(impl.Stmt{Else: list()})}}, Signs: [][]int{nil}}
	if !impl.WorldSame(a, b) || !impl.WorldSame(b, a) {
		t.Error("a nil and an empty slice further in")
	}
	if impl.WorldSame(a, impl.World{}) || impl.WorldSame(impl.World{}, fresh()) {
		t.Error("nothing and something")
	}
}

func todoWorld(todo []impl.Stmt) impl.World { return impl.World{Procs: []impl.Proc{{Todo: todo}}} }

// ring is a list that holds itself as a Body, after a level for each of these registers.
func ring(registers ...int) []impl.Stmt {
	first := list(while(registers[0]))
	last := first
	for _, a := range registers[1:] {
		next := list(while(a))
		last[0].Body = next
		last = next
	}
	last[0].Body = first
	return first
}

// Any configuration is compared, even one whose Todo holds itself: such lists are the same if all their levels are.
func TestWorldSameOfListsThatHoldThemselves(t *testing.T) {
	rings := [][]impl.Stmt{ring(0), ring(0, 0), ring(0, 0, 0), list(while(0, ring(0)...)), ring(0, 1), ring(0, 1, 0, 1), ring(1, 0), ring(0, 0, 1), list(while(0, while(0, while(0)))), nil}
	class := []int{0, 0, 0, 0, 1, 1, 2, 3, 4, 5}
	for i, a := range rings {
		for j, b := range rings {
			if got := impl.WorldSame(todoWorld(a), todoWorld(b)); got != (class[i] == class[j]) {
				t.Errorf("rings %d and %d: %v", i, j, got)
			}
		}
	}
	both, other := list(choose(0, nil, nil)), list(choose(0, nil, nil))
	both[0].Body, both[0].Else = both, both
	other[0].Body, other[0].Else = both, other
	if !impl.WorldSame(todoWorld(both), todoWorld(other)) {
		t.Error("Body and Else that hold themselves")
	}
}

// layers is a list of n levels, each of which holds the next one twice; only the last one has the register.
func layers(n, register int) []impl.Stmt {
	inner := list(say(register))
	for range n {
		inner = list(choose(0, inner, inner))
	}
	return inner
}

func TestWorldSameOfWideAndDeepLists(t *testing.T) {
	if !impl.WorldSame(todoWorld(layers(90, 0)), todoWorld(layers(90, 0))) || impl.WorldSame(todoWorld(layers(90, 0)), todoWorld(layers(90, 1))) {
		t.Error("lists of many levels, each with the next one twice")
	}
	// Comparing such lists must not need a stack as deep as they are.
	defer debug.SetMaxStack(debug.SetMaxStack(1 << 20))
	deep := func(register int) impl.World {
		inner := list(say(register))
		for range 100000 {
			inner = list(while(0, inner...))
		}
		return todoWorld(inner)
	}
	if !impl.WorldSame(deep(0), deep(0)) || impl.WorldSame(deep(0), deep(1)) {
		t.Error("deep lists")
	}
}

// Two lists may begin at one place and still differ in length.
func TestWorldSameOfListsInOnePlace(t *testing.T) {
	base := list(say(0), say(1), say(0), say(2))
	a := list(while(0, base[:1]...), while(0, base[:2]...), while(0, base[:1]...))
	b := list(while(0, base[2:3]...), while(0, base[2:4]...), while(0, base[2:3]...))
	for _, w := range [][2]impl.World{{todoWorld(a), todoWorld(b)}, {todoWorld(a[:2]), todoWorld(b[:2])}, {todoWorld(a[1:]), todoWorld(b[1:])}} {
		if impl.WorldSame(w[0], w[1]) || impl.WorldSame(w[1], w[0]) {
			t.Error("the longer lists differ")
		}
	}
	if !impl.WorldSame(todoWorld(a[:1]), todoWorld(b[:1])) || impl.WorldSame(todoWorld(base[:1]), todoWorld(base[:2])) {
		t.Error("the shorter lists do not")
	}
}

func TestSaidBy(t *testing.T) {
	said := []impl.Say{{Who: 1, N: 5}, {Who: 0, N: 7}, {Who: 1, N: -5}, {Who: 1, N: 5}, {Who: 2, N: 0}}
	for who, want := range map[int][]int{0: {7}, 1: {5, -5, 5}, 2: {0}, 3: nil, -1: nil, 5: nil, 7: nil, math.MaxInt: nil, math.MinInt: nil} {
		if got := impl.SaidBy(said, who); !slices.Equal(got, want) {
			t.Errorf("%d wrote %v, not %v", who, got, want)
		}
		if len(impl.SaidBy(nil, who)) != 0 || len(impl.SaidBy([]impl.Say{}, who)) != 0 {
			t.Errorf("%d wrote something without any output", who)
		}
	}
	if got := impl.SaidBy([]impl.Say{{Who: 9, N: 5000}}, 9); !slices.Equal(got, []int{5000}) {
		t.Error(got)
	}
}

// lively are programs in which much happens at few steps.
var lively = [][]string{
	{"in 0 [ wait 0 say 0 ]", "in 0 [ wait 0 say 0 ]", "in 0 [ signal 0 ] signal 0"},
	{"in 0 [ wait 1 wait 0 ]", "in 1 [ signal 1 wait 1 ]", "signal 0 in 0 [ signal 1 yield ]"},
	{"num 0 1 while 0 [ in 0 [ wait 0 ] ]", "num 0 1 while 0 [ signal 0 ]", "in 0 [ yield ]"},
	{"num 0 1 in 1 [ store 0 0 ] load 1 0", "in 1 [ load 0 0 if 0 [ signal 1 ] [ wait 1 ] ]", "in 1 [ signal 1 ]"},
}

// sequences yields each sequence of so many numbers from 0 up to below base.
func sequences(length, base int) iter.Seq[[]int] {
	return func(yield func([]int) bool) {
		if length == 0 {
			yield(nil)
			return
		}
		for rest := range sequences(length-1, base) {
			for first := range base {
				if !yield(append([]int{first}, rest...)) {
					return
				}
			}
		}
	}
}

// TestAllShortPlays tries every sequence of eight picks of the three processes against the model.
func TestAllShortPlays(t *testing.T) {
	for _, texts := range lively {
		p := program(t, texts...)
		for picks := range sequences(8, 3) {
			checkAgainstModel(t, p, picks)
			if t.Failed() {
				t.Fatalf("%q, %v", texts, picks)
			}
		}
	}
}

func checkAgainstModel(t *testing.T, p [][]impl.Stmt, picks []int) {
	t.Helper()
	m := newModel(p)
	codes := m.play(picks)
	w, got := impl.MeanPlay(p, picks)
	if !slices.Equal(got, codes) {
		t.Errorf("the codes are %v, not %v", got, codes)
	}
	want := m.world()
	if !impl.WorldSame(w, want) || shown(w) != shown(want) {
		t.Errorf("the configuration is\n%s, not\n%s", shown(w), shown(want))
	}
	var can []int
	for who := range p {
		trial := newModel(p)
		trial.play(picks)
		if trial.step(who) == impl.StepFine {
			can = append(can, who)
		}
	}
	checkCan(t, p, picks, can...)
}

// process makes a process whose loops have a register that is not 0, or one that is most of the time in a monitor.
func (m maker) process() []impl.Stmt {
	left := 13
	if m.IntN(2) == 0 {
		return slices.Concat(list(num(m.IntN(3), 1)), m.stmts(&left, 3, -1))
	}
	var out []impl.Stmt
	for range 3 {
		body := list(wait(m.IntN(2)), signal(m.IntN(2)), yields())
		m.Shuffle(3, func(i, j int) { body[i], body[j] = body[j], body[i] })
		out = append(out, in(m.IntN(2), body[:2]...), signal(m.IntN(2)))
	}
	return out
}

// TestMadePlays plays made programs against the model, and counts that what the promise is about does happen.
func TestMadePlays(t *testing.T) {
	m := maker{rand.New(rand.NewPCG(3, 14))}
	seen := map[string]int{}
	for range 1000 {
		var p [][]impl.Stmt
		for range 1 + m.IntN(3) {
			p = append(p, m.process())
		}
		picks := make([]int, m.IntN(201))
		for i := range picks {
			picks[i] = m.IntN(len(p)+2) - 1
		}
		checkAgainstModel(t, p, picks)
		countEvents(t, p, picks, seen)
		if t.Failed() {
			t.Fatalf("%v, %v", p, picks)
		}
	}
	checkHappened(t, seen, "signal 0", "signal 1", "signal 2", "held waiting", "held back", "held outside", "back", "full")
}

// checkHappened makes sure that what made programs are about has been counted.
func checkHappened(t *testing.T, seen map[string]int, events ...string) {
	t.Helper()
	for _, event := range events {
		if seen[event] == 0 {
			t.Errorf("it did not happen: %s", event)
		}
	}
}

// countEvents also holds the promise at each step, by what a step may change in the queues.
func countEvents(t *testing.T, p [][]impl.Stmt, picks []int, seen map[string]int) {
	t.Helper()
	before := impl.MeanOpen(p)
	for i, who := range picks {
		w, codes := impl.MeanPlay(p, picks[:i+1])
		checkMonitors(t, w)
		if codes[i] != impl.StepFine && shown(w) != shown(before) {
			t.Fatalf("step %d has the code %d and changes something", i, codes[i])
		}
		if codes[i] == impl.StepHeld {
			seen["held "+[]string{"outside", "waiting", "back"}[before.Procs[who].Mode]]++
		}
		if codes[i] == impl.StepFine {
			seen[checkStep(t, before, w, who)]++
		}
		before = w
	}
	if len(picks) == 200 {
		seen["full"]++
	}
}

func checkStep(t *testing.T, before, after impl.World, who int) string {
	t.Helper()
	proc := before.Procs[who]
	if proc.Mode == impl.ProcBack {
		return "back"
	}
	s := proc.Todo[0]
	want := [][]int{slices.Clone(before.Signs[0]), slices.Clone(before.Signs[1])}
	event := ""
	switch s.Kind {
	case impl.StmtWait:
		want[s.A] = append(want[s.A], who)
	case impl.StmtSignal:
		event = fmt.Sprint("signal ", len(want[s.A]))
		want[s.A] = want[s.A][min(1, len(want[s.A])):]
	}
	if fmt.Sprint(after.Signs) != fmt.Sprint(want) {
		t.Errorf("the queues are %v, not %v", after.Signs, want)
	}
	return event
}

// busy is a program, the third process of which has the memory of the second one, and picks that put something into
// every slice of the result.
func busy(t *testing.T) ([][]impl.Stmt, []int) {
	t.Helper()
	p := program(t,
		"num 0 1 say 0 while 0 [ if 1 [ say 0 ] [ say 1 yield ] while 0 [ yield ] ] say 0",
		"in 0 [ if 0 [ yield ] [ say 0 while 0 [ ] ] wait 1 ] while 0 [ say 0 ]")
	return append(p, p[1]), []int{0, 0, 0, 1, 1, 1, 1, 1, 2, 2, 2, 2, 2, 0, 0, 0, 0, 0}
}

// places are the addresses of what a slice holds, up to its capacity.
func places[T any](s []T) []any {
	var out []any
	s = s[:cap(s)]
	for i := range s {
		out = append(out, &s[i])
	}
	return out
}

// checkApart makes sure that no place is there twice.
func checkApart(t *testing.T, all []any) {
	t.Helper()
	seen := map[any]bool{}
	for _, place := range all {
		if seen[place] {
			t.Fatalf("a %T is in two slices", place)
		}
		seen[place] = true
	}
}

func stmtPlaces(process []impl.Stmt) []any {
	var out []any
	for _, one := range slicesOf(process) {
		out = append(out, places(one)...)
	}
	return out
}

func worldPlaces(w impl.World) []any {
	out := slices.Concat(places(w.Procs), places(w.Cells), places(w.Rooms), places(w.Signs), places(w.Said))
	for _, proc := range w.Procs {
		out = slices.Concat(out, places(proc.Regs), stmtPlaces(proc.Todo))
	}
	for _, queue := range w.Signs {
		out = append(out, places(queue)...)
	}
	return out
}

func TestMeanSharesNoMemory(t *testing.T) {
	p, picks := busy(t)
	// The memory of the arguments, in which p[2] is p[1] again.
	all := slices.Concat(stmtPlaces(p[0]), stmtPlaces(p[1]), places(p), places(picks))
	for steps := range len(picks) + 1 {
		w, codes := impl.MeanPlay(p, picks[:steps])
		again, more := impl.MeanPlay(p, picks[:steps])
		all = slices.Concat(all, worldPlaces(w), places(codes), worldPlaces(again), places(more))
		all = slices.Concat(all, worldPlaces(impl.MeanOpen(p)), places(impl.MeanCan(p, picks[:steps])))
		all = slices.Concat(all, places(impl.SaidBy(w.Said, 0)), places(impl.SaidBy(w.Said, 0)))
	}
	checkApart(t, all)
}

// A result stays as it is when an argument or another result is changed behind the call.
func TestMeanResultsStay(t *testing.T) {
	p, picks := busy(t)
	opened := impl.MeanOpen(p)
	first, codes := impl.MeanPlay(p, picks)
	second, _ := impl.MeanPlay(p, picks)
	want, start := shown(first), shown(opened)
	for _, proc := range second.Procs {
		clear(proc.Regs)
		for _, one := range slicesOf(proc.Todo) {
			clear(one)
		}
	}
	clear(second.Procs)
	clear(second.Said)
	clearProgram(p)
	clear(picks)
	if shown(first) != want || shown(opened) != start || !slices.Equal(codes, fine(len(picks))) {
		t.Error("a result has changed")
	}
}

// roomy returns the slice with something behind its end.
func roomy[T any](s []T, behind T) []T { return append(slices.Clone(s), behind)[:len(s)] }

// roomyProgram returns the program with something behind the end of each of its slices.
func roomyProgram(p [][]impl.Stmt) [][]impl.Stmt {
	p = roomy(p, list(say(1)))
	for i, process := range p {
		p[i] = roomy(process, num(2, 77))
		for j, s := range p[i] {
			p[i][j].Body, p[i][j].Else = roomy(s.Body, num(2, 78)), roomy(s.Else, num(2, 79))
		}
	}
	return p
}

// clearProgram makes all statements of a program zero, up to the capacities of their slices.
func clearProgram(p [][]impl.Stmt) {
	for _, process := range p {
		for _, one := range slicesOf(process) {
			clear(one)
		}
	}
}

func TestMeanChangesNoArgument(t *testing.T) {
	p, picks := busy(t)
	p = roomyProgram(p)
	picks = roomy(picks, 55)
	said := roomy([]impl.Say{{Who: 0, N: 1}, {Who: 1, N: 2}}, impl.Say{Who: 0, N: 3})
	a, b := many(), many()
	look := func() string {
		all := fmt.Sprint(p[:cap(p)], picks[:cap(picks)], said[:cap(said)], shown(a), shown(b))
		for _, process := range p {
			all += fmt.Sprint(slicesOf(process))
		}
		return all
	}
	before := look()
	impl.MeanOpen(p)
	impl.MeanPlay(p, picks)
	impl.MeanCan(p, picks)
	impl.SaidBy(said, 0)
	impl.WorldSame(a, b)
	impl.WorldSame(a, a)
	if after := look(); after != before {
		t.Errorf("%s has become %s", before, after)
	}
}

// Whatever runs within a call has ended when it returns.
func TestMeanLeavesNothingRunning(t *testing.T) {
	p, picks := busy(t)
	before := runtime.NumGoroutine()
	for range 50 {
		impl.MeanPlay(p, picks)
		impl.MeanCan(p, picks[:3])
		impl.MeanCan(p, nil)
	}
	if after := runtime.NumGoroutine(); after > before {
		t.Errorf("%d goroutines have become %d", before, after)
	}
}
