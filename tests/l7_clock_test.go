package tests

import (
	"fmt"
	"math"
	"math/rand/v2"
	"slices"
	"testing"

	"loop.example/changeringer/impl"
)

// These tests hold promise 8: if each cell is used only inside of its monitor, there is no data race.

func TestClockJoin(t *testing.T) {
	for _, c := range []struct {
		name       string
		a, b, want []int
	}{
		{"equal lengths", ints(1, 5, 2), ints(3, 2, 2), ints(3, 5, 2)},
		{"one element", ints(4), ints(7), ints(7)},
		{"the first is longer", ints(1, 5, 2), ints(3), ints(3, 5, 2)},
		{"the second is longer", ints(1, 5), ints(3, 2, 1, 9), ints(3, 5, 1, 9)},
		{"the first is empty", nil, ints(3, 0, 1), ints(3, 0, 1)},
		{"the second is empty", ints(3, 0, 1), nil, ints(3, 0, 1)},
		{"both are empty", nil, nil, nil},
		{"zeros", ints(0, 0), ints(0, 0, 0), ints(0, 0, 0)},
		{"negative in the first", ints(-1, -5, 2), ints(3, 0, 1), ints(3, 0, 2)},
		{"negative in the second", ints(3, 0, 1), ints(-1, -5, -2), ints(3, 0, 1)},
		{"negative in both", ints(-1, -5, -3), ints(-2, -4, -3), ints(0, 0, 0)},
		{"negative behind the end of the second", ints(1, -5, 2, -1), ints(1), ints(1, 0, 2, 0)},
		{"negative behind the end of the first", ints(1), ints(1, -5, 2, -1), ints(1, 0, 2, 0)},
		{"negative and an empty one", ints(-1, 2), nil, ints(0, 2)},
		{"an empty one and negative", nil, ints(-1, -2), ints(0, 0)},
		{"the ends of int", ints(math.MinInt, math.MaxInt, math.MinInt), ints(math.MaxInt, math.MinInt, math.MinInt), ints(math.MaxInt, math.MaxInt, 0)},
		{"more numbers than processes", ints(1, 2, 3, 4, 5, 6), ints(6, 5, 4, 3, 2, 1), ints(6, 5, 4, 4, 5, 6)},
		{"numbers past all limits", ints(1000, 5), ints(201, 5000), ints(1000, 5000)},
	} {
		if got := impl.ClockJoin(c.a, c.b); !slices.Equal(got, c.want) {
			t.Errorf("%s: %v, not %v", c.name, got, c.want)
		}
		if got := impl.ClockJoin(c.b, c.a); !slices.Equal(got, c.want) {
			t.Errorf("%s, changed round: %v, not %v", c.name, got, c.want)
		}
	}
}

func TestClockUnder(t *testing.T) {
	for _, c := range []struct {
		name        string
		a, b        []int
		want, round bool
	}{
		{"equal", ints(1, 5, 2), ints(1, 5, 2), true, true},
		{"less", ints(1, 4, 2), ints(1, 5, 2), true, false},
		{"less and greater", ints(1, 4), ints(0, 5), false, false},
		{"the last is greater", ints(1, 4, 3), ints(1, 5, 2), false, false},
		{"the second is longer", ints(1), ints(1, 2), true, false},
		{"the second is longer, with zeros", ints(1), ints(1, 0, 0), true, true},
		{"the second is longer and less", ints(2), ints(1, 2), false, false},
		{"one is empty", nil, ints(1), true, false},
		{"one is empty, zeros", nil, ints(0, 0), true, true},
		{"both are empty", nil, nil, true, true},
		{"negative in the first", ints(-1, 2), ints(0, 2), true, true},
		{"negative in the first and greater", ints(-1, 2), ints(0, 1), false, true},
		{"negative in the second", ints(0, 2), ints(-1, 2), true, true},
		{"negative in the second and greater", ints(1, 2), ints(-1, 2), false, true},
		{"negative in both, the first is less", ints(-5), ints(-4), true, true},
		{"negative behind the end", ints(1, -1), ints(1), true, true},
		{"positive behind the end", ints(1, 1), ints(1), false, true},
		{"negative and an empty one", ints(-1, -2), nil, true, true},
		{"the ends of int", ints(math.MinInt), ints(math.MaxInt), true, false},
		{"the least", ints(0), ints(math.MinInt), true, true},
		{"the greatest", ints(math.MaxInt), ints(math.MaxInt), true, true},
		{"more numbers than processes", ints(1, 2, 3, 4, 5, 6), ints(1, 2, 3, 4, 5, 7), true, false},
		{"the fifth of more numbers is greater", ints(1, 2, 3, 4, 6), ints(1, 2, 3, 4, 5, 7), false, false},
	} {
		if got, round := impl.ClockUnder(c.a, c.b), impl.ClockUnder(c.b, c.a); got != c.want || round != c.round {
			t.Errorf("%s: %v, and changed round %v", c.name, got, round)
		}
	}
}

// shortClocks returns all clocks of up to three small numbers.
func shortClocks() [][]int {
	var out [][]int
	for length := range 4 {
		for numbers := range sequences(length, 5) {
			for at := range numbers {
				numbers[at] -= 2
			}
			out = append(out, numbers)
		}
	}
	return out
}

// TestAllShortClocks makes all lengths equal with zeros, and compares then.
func TestAllShortClocks(t *testing.T) {
	filled := func(clock []int) [3]int {
		var out [3]int
		copy(out[:], clock)
		return out
	}
	all := shortClocks()
	for _, a := range all {
		for _, b := range all {
			var want [3]int
			under, first, second := true, filled(a), filled(b)
			for at := range 3 {
				want[at] = max(0, first[at], second[at])
				under = under && first[at] <= max(0, second[at])
			}
			got := impl.ClockJoin(a, b)
			if len(got) != max(len(a), len(b)) || filled(got) != want {
				t.Errorf("ClockJoin(%v, %v) is %v", a, b, got)
			}
			if impl.ClockUnder(a, b) != under {
				t.Errorf("ClockUnder(%v, %v) is %v", a, b, !under)
			}
			if !impl.ClockUnder(a, got) || !impl.ClockUnder(b, got) || impl.ClockUnder(a, b) != slices.Equal(impl.ClockJoin(b, a), impl.ClockJoin(b, fine(len(a)))) {
				t.Errorf("%v and %v are not under %v, or not as they should be", a, b, got)
			}
		}
	}
}

func loads(who, at, cell int, clock ...int) impl.Mark {
	return impl.Mark{Who: who, At: at, Cell: cell, Clock: clock}
}

func stores(who, at, cell int, clock ...int) impl.Mark {
	return impl.Mark{Who: who, At: at, Store: true, Cell: cell, Clock: clock}
}

func shownMarks(marks []impl.Mark) string { return fmt.Sprintf("%+v", marks) }

// checkAll compares with the model, and the races also with what MarkAhead says of the marks.
func checkAll(t *testing.T, p [][]impl.Stmt, picks []int) ([]impl.Mark, []impl.Race) {
	t.Helper()
	marks, races := impl.MarksOf(p, picks), impl.RacesOf(p, picks)
	want, ahead := modelMarks(p, picks)
	if shownMarks(marks) != shownMarks(want) {
		t.Errorf("the marks of %v are\n%s, not\n%s", picks, shownMarks(marks), shownMarks(want))
		return marks, races
	}
	isAhead := func(i, j int) bool { return ahead[j][i] }
	if want := racesAmong(want, isAhead); !slices.Equal(races, want) {
		t.Errorf("the races of %v are %v, not %v", picks, races, want)
	}
	for i := range marks {
		for j := range marks {
			if got := impl.MarkAhead(marks[i], marks[j]); got != isAhead(i, j) {
				t.Errorf("%v: mark %d is ahead of mark %d: %v", picks, i, j, got)
			}
			if marks[i].Who != marks[j].Who && impl.ClockUnder(marks[i].Clock, marks[j].Clock) != isAhead(i, j) {
				t.Errorf("%v: the clocks of the marks %d and %d tell something else", picks, i, j)
			}
		}
	}
	return marks, races
}

func checkMarks(t *testing.T, p [][]impl.Stmt, picks []int, want ...impl.Mark) {
	t.Helper()
	if got, _ := checkAll(t, p, picks); shownMarks(got) != shownMarks(want) {
		t.Errorf("the marks of %v are\n%s, not\n%s", picks, shownMarks(got), shownMarks(want))
	}
}

func TestMarksOfOneProcess(t *testing.T) {
	p := program(t, "load 0 0 store 1 0 say 0 load 2 2 in 1 [ store 0 1 yield load 0 1 ] store 2 2")
	want := []impl.Mark{
		loads(0, 0, 0, 1), stores(0, 1, 1, 2), loads(0, 3, 2, 4), stores(0, 5, 0, 6), loads(0, 7, 1, 8), stores(0, 9, 2, 10),
	}
	checkMarks(t, p, fine(10), want...)
	checkMarks(t, p, fine(20), want...)
	for many := range 11 {
		marks := slices.DeleteFunc(slices.Clone(want), func(m impl.Mark) bool { return m.At >= many })
		checkMarks(t, p, fine(many), marks...)
	}
	checkMarks(t, program(t, "say 0 num 0 1 yield signal 0 in 0 [ ] if 0 [ load 0 0 ] [ store 0 0 ]"), fine(8), loads(0, 7, 0, 8))
	checkMarks(t, program(t, "say 0 num 0 1 yield signal 0 in 0 [ ] if 1 [ load 0 0 ] [ store 0 0 ]"), fine(8), stores(0, 7, 0, 8))
	checkMarks(t, program(t, "-"), fine(8))
	checkMarks(t, program(t, "yield in 0 [ wait 0 ]"), fine(8))
}

func TestMarksOfEachCellAndRegister(t *testing.T) {
	for a := range 3 {
		for b := range 3 {
			p := [][]impl.Stmt{list(load(a, b)), list(store(a, b))}
			checkMarks(t, p, ints(0, 1), loads(0, 0, b, 1, 0), stores(1, 1, a, 0, 1))
			checkMarks(t, p, ints(1, 0), stores(1, 0, a, 0, 1), loads(0, 1, b, 1, 0))
		}
	}
}

// The clocks of a program of three processes have three numbers, also where nobody heard of anybody.
func TestMarksOfProcessesApart(t *testing.T) {
	p := program(t, "load 0 0 yield load 0 0", "yield store 1 0", "store 0 0 store 2 0")
	checkMarks(t, p, ints(2, 0, 1, 0, 2, 1, 0), stores(2, 0, 0, 0, 0, 1), loads(0, 1, 0, 1, 0, 0), stores(2, 4, 2, 0, 0, 2), stores(1, 5, 1, 0, 2, 0), loads(0, 6, 0, 3, 0, 0))
	checkMarks(t, p[:2], ints(0, 1, 1, 2, 0, 0), loads(0, 0, 0, 1, 0), stores(1, 2, 1, 0, 2), loads(0, 5, 0, 3, 0))
	checkMarks(t, p[2:], ints(0, 1, 0), stores(0, 0, 0, 1), stores(0, 2, 2, 2))
}

// Only steps that are fine count, and At counts all picks.
func TestMarksBehindStepsThatAreNotFine(t *testing.T) {
	for many := 1; many <= 3; many++ {
		p := program(t, slices.Repeat([]string{"load 0 1 store 2 0"}, many)...)
		clock := func(n int) []int {
			clock := fine(many)
			clock[many-1] = n
			return clock
		}
		for _, who := range []int{-1, many, many + 1, -2, 200, math.MinInt, math.MaxInt, 1 << 32, -1 << 32} {
			picks := ints(who, who, many-1, who, many-1, who, many-1)
			checkMarks(t, p, picks, loads(many-1, 2, 1, clock(1)...), stores(many-1, 4, 2, clock(2)...))
			checkMarks(t, p, ints(who, who))
		}
	}
	// Done, held in front of a monitor, waiting, and back while another is inside.
	checkMarks(t, program(t, "-", "load 0 0 store 0 0"), ints(0, 0, 1, 0, 1, 1, 1, 0), loads(1, 2, 0, 0, 1), stores(1, 4, 0, 0, 2))
	checkMarks(t, program(t, "in 0 [ store 0 0 load 0 0 ]", "in 0 [ load 0 0 ]"), ints(0, 1, 0, 1, 1, 0, 1, 0, 1, 1), stores(0, 2, 0, 2, 0), loads(0, 5, 0, 3, 0), loads(1, 9, 0, 4, 2))
	p := program(t, "in 1 [ wait 1 load 0 2 ]", "in 1 [ signal 1 store 2 0 ]")
	checkMarks(t, p, ints(0, 0, 0, 0, 1, 0, 1, 0, 1, 0, 1, 0, 0), stores(1, 8, 2, 2, 3), loads(0, 12, 2, 4, 4))
}

func TestClockOfAStmtIn(t *testing.T) {
	p := program(t, "yield in 0 [ load 0 0 ]", "in 0 [ store 0 0 ] store 1 0", "in 1 [ load 0 0 ]")
	// Nobody has been in monitor 0, and process 2 only in monitor 1.
	checkMarks(t, p, ints(2, 2, 2, 0, 0, 0), loads(2, 1, 0, 0, 0, 2), loads(0, 5, 0, 3, 0, 0))
	// Process 1 left it: what it did there is known, and what it did later is not.
	checkMarks(t, p, ints(1, 1, 1, 1, 0, 0, 0), stores(1, 1, 0, 0, 2, 0), stores(1, 3, 1, 0, 4, 0), loads(0, 6, 0, 3, 3, 0))
	// The clock comes in with the StmtIn, not before.
	p = program(t, "load 0 0 in 0 [ ] load 0 0", "in 0 [ ]")
	checkMarks(t, p, ints(1, 1, 0, 0, 0, 0), loads(0, 2, 0, 1, 0), loads(0, 5, 0, 4, 2))
	// One that comes again has both numbers, and the greater one of each.
	p = program(t, "in 0 [ ] in 0 [ load 0 0 ]", "in 0 [ ] in 0 [ load 0 0 ]", "in 0 [ load 0 0 ]")
	checkMarks(t, p, ints(0, 0, 1, 1, 0, 0, 0, 2, 2, 2, 1, 1), loads(0, 5, 0, 4, 2, 0), loads(2, 8, 0, 5, 2, 2), loads(1, 11, 0, 5, 4, 3))
}

// What is known of a process by way of another one is handed on, too.
func TestClocksThroughTwoMonitors(t *testing.T) {
	p := program(t, "store 0 0 in 0 [ ]", "in 0 [ ] in 1 [ ]", "in 1 [ load 0 0 ]")
	checkMarks(t, p, ints(0, 0, 0, 1, 1, 1, 1, 2, 2), stores(0, 0, 0, 1, 0, 0), loads(2, 8, 0, 3, 4, 2))
	// In the other order it is known of process 1, and not what was known in monitor 0.
	checkMarks(t, p, ints(1, 1, 0, 0, 0, 1, 1, 2, 2), stores(0, 2, 0, 1, 0, 0), loads(2, 8, 0, 0, 4, 2))
}

// The clock of a monitor becomes that of a process that waits, and comes in when somebody enters it.
func TestClockOfAStmtWait(t *testing.T) {
	for room := range 2 {
		for sign := range 2 {
			p := [][]impl.Stmt{list(store(0, 0), in(room, wait(sign))), list(in(room, load(0, 0)), in(1-room, load(0, 0)))}
			checkMarks(t, p, ints(0, 0, 0, 1, 1), stores(0, 0, 0, 1, 0), loads(1, 4, 0, 3, 2))
			p = [][]impl.Stmt{list(store(0, 0), in(room, wait(sign))), list(in(1-room, load(0, 0)), in(room, load(0, 0)))}
			checkMarks(t, p, ints(0, 0, 0, 1, 1, 1, 1, 1), stores(0, 0, 0, 1, 0), loads(1, 4, 0, 0, 2), loads(1, 7, 0, 3, 5))
		}
	}
}

// The signal comes from process 2, which was in no monitor, and the clock of the monitor from process 1.
func TestClockOfAStepBack(t *testing.T) {
	p := program(t, "in 1 [ wait 0 load 0 0 ] load 0 0", "in 1 [ store 0 0 ]", "yield signal 0")
	// Process 1 is in the monitor before the signal, and behind it.
	checkMarks(t, p, ints(0, 0, 1, 1, 1, 2, 2, 0, 0), stores(1, 3, 0, 2, 2, 0), loads(0, 8, 0, 4, 3, 2))
	checkMarks(t, p, ints(0, 0, 2, 2, 1, 1, 1, 0, 0), stores(1, 5, 0, 2, 2, 0), loads(0, 8, 0, 4, 3, 2))
	// It comes into the monitor too late.
	checkMarks(t, p, ints(0, 0, 2, 2, 0, 0, 0, 1, 1, 0), loads(0, 5, 0, 4, 0, 2), stores(1, 8, 0, 5, 2, 2), loads(0, 9, 0, 6, 0, 2))
	// A step back loads nothing, though a StmtLoad stands behind it.
	checkMarks(t, p, ints(0, 0, 2, 2, 0))
	// A StmtLeave or a StmtWait that stands behind it comes with the step after it.
	p = program(t, "in 0 [ wait 0 ] load 0 0", "in 0 [ signal 0 ] in 0 [ load 0 0 ]")
	checkMarks(t, p, ints(0, 0, 1, 1, 1, 0, 0, 1, 1, 0), loads(1, 8, 0, 4, 5), loads(0, 9, 0, 5, 3))
	p = program(t, "in 0 [ wait 0 wait 1 ]", "in 0 [ signal 0 ] in 0 [ load 0 0 ]")
	checkMarks(t, p, ints(0, 0, 1, 1, 1, 0, 0, 1, 1), loads(1, 8, 0, 4, 5))
}

func TestClockOfASignalToNobody(t *testing.T) {
	p := program(t, "signal 0 signal 1 load 0 0", "in 0 [ wait 0 load 0 0 ] load 0 0", "signal 0 load 0 0")
	// All are there, and nobody waits, or somebody for the other signal.
	checkMarks(t, p, ints(0, 0, 0, 1, 2, 2), loads(0, 2, 0, 3, 0, 0), loads(2, 5, 0, 0, 0, 2))
	checkMarks(t, p, ints(0, 1, 1, 0, 2, 2, 1, 1, 0), loads(2, 5, 0, 0, 0, 2), loads(1, 7, 0, 0, 4, 1), loads(0, 8, 0, 3, 0, 0))
	// One that is back already waits no more.
	p = program(t, "signal 0 load 0 0", "in 0 [ wait 0 load 0 0 ]", "signal 0 load 0 0")
	checkMarks(t, p, ints(1, 1, 2, 0, 1, 1, 0, 2), loads(1, 5, 0, 0, 4, 1), loads(0, 6, 0, 2, 0, 0), loads(2, 7, 0, 0, 0, 2))
}

func TestClockOfASignalToOne(t *testing.T) {
	p := program(t, "in 0 [ wait 1 load 0 0 ]", "store 0 0 signal 1 store 0 0", "load 1 0")
	// The one that waits learns of the signal and of what was before it, and nobody else learns anything.
	checkMarks(t, p, ints(0, 0, 1, 1, 1, 0, 0, 2), stores(1, 2, 0, 0, 1, 0), stores(1, 4, 0, 0, 3, 0), loads(0, 6, 0, 4, 2, 0), loads(2, 7, 0, 0, 0, 1))
	// It keeps what it knew, and the one that signals does not learn it outside of the monitor.
	p = program(t, "in 1 [ wait 1 ] load 0 0", "in 1 [ ] signal 1 load 0 0", "in 1 [ ]")
	checkMarks(t, p, ints(1, 1, 2, 2, 0, 0, 1, 1, 0, 0, 0), loads(1, 7, 0, 0, 4, 0), loads(0, 10, 0, 5, 3, 2))
	// In the monitor it does, by its StmtIn.
	p = program(t, "in 1 [ wait 1 ] load 0 0", "in 1 [ signal 1 load 0 0 ]")
	checkMarks(t, p, ints(0, 0, 1, 1, 1, 1, 0, 0, 0), loads(1, 4, 0, 2, 3), loads(0, 8, 0, 5, 4))
}

// Two wait in different monitors: each signal is for the first of them alone.
func TestClockOfASignalToTwo(t *testing.T) {
	p := program(t, "in 0 [ wait 0 load 0 0 ]", "in 1 [ wait 0 load 0 0 ]", "signal 0 yield signal 0 load 0 0")
	for first := range 2 {
		second := 1 - first
		mark := func(who, at, signals int) impl.Mark {
			clock := ints(0, 0, signals)
			clock[who] = 4
			return loads(who, at, 0, clock...)
		}
		waiting := ints(first, first, second, second)
		// The second one is held until it has its own signal.
		checkMarks(t, p, append(waiting, 2, second, first, first, 2, 2, first, second, second), mark(first, 7, 1), mark(second, 12, 3))
		// Both signals come before anybody is back.
		checkMarks(t, p, append(waiting, 2, 2, 2, second, first, first, second), mark(first, 9, 1), mark(second, 10, 3))
	}
}

func TestMarksOfMostPicks(t *testing.T) {
	// The marks are the steps 3, 5, .. 199 of 200.
	p := program(t, "num 0 1 while 0 [ load 1 2 ]", "-")
	for many, want := range map[int]int{0: 0, 1: 0, 2: 0, 3: 1, 199: 99, 200: 99, 201: 0, 202: 0, 400: 0, 5000: 0} {
		marks := impl.MarksOf(p, fine(many))
		if len(marks) != want {
			t.Errorf("%d picks have %d marks", many, len(marks))
		}
		for i, mark := range marks {
			if shownMarks([]impl.Mark{mark}) != shownMarks([]impl.Mark{loads(0, 2+2*i, 2, 3+2*i, 0)}) {
				t.Errorf("mark %d of %d picks is %v", i, many, mark)
			}
		}
		for _, who := range []int{-1, 1, 2} {
			if got := impl.MarksOf(p, slices.Repeat(ints(who), many)); len(got) != 0 {
				t.Errorf("%d picks of %d have %v", many, who, got)
			}
		}
	}
	// Marks and races at the very last pick.
	p = program(t, "store 0 0", "load 0 0")
	picks := append(slices.Repeat(ints(-1), 198), 0, 1)
	checkMarks(t, p, picks, stores(0, 198, 0, 1, 0), loads(1, 199, 0, 0, 1))
	checkRaces(t, p, picks, impl.Race{I: 0, J: 1})
	picks = append(ints(2), picks...)
	if marks, races := impl.MarksOf(p, picks), impl.RacesOf(p, picks); len(marks) != 0 || len(races) != 0 {
		t.Error("201 picks:", marks, races)
	}
}

func TestClocksOfInvalidPrograms(t *testing.T) {
	programs := invalidPrograms()
	programs["races"] = append(program(t, "store 0 0", "load 0 0"), list(load(0, 0), store(3, 0)))
	for name, p := range programs {
		for _, picks := range [][]int{nil, {0}, {0, 1, -1, 2}, fine(200), fine(201)} {
			if marks, races := impl.MarksOf(p, picks), impl.RacesOf(p, picks); len(marks) != 0 || len(races) != 0 {
				t.Errorf("%s: %v, %v", name, marks, races)
			}
		}
	}
}

func TestNoPicksNoMarks(t *testing.T) {
	for _, p := range [][][]impl.Stmt{{nil}, program(t, "load 0 0"), program(t, "load 0 0", "store 0 0", "in 0 [ store 0 0 ]")} {
		for _, picks := range [][]int{nil, {}} {
			checkMarks(t, p, picks)
			checkRaces(t, p, picks)
		}
	}
}

func TestMarkAhead(t *testing.T) {
	for _, c := range []struct {
		name        string
		a, b        impl.Mark
		want, round bool
	}{
		{"one process, less", loads(0, 0, 0, 1, 5), loads(0, 1, 0, 2, 5), true, false},
		{"one process, the second one", loads(1, 0, 0, 9, 3), loads(1, 1, 0, 1, 4), true, false},
		{"one process, equal", loads(0, 0, 0, 2, 5), loads(0, 1, 0, 2, 9), false, false},
		{"two processes, less", loads(0, 0, 0, 1, 0), loads(1, 1, 0, 2, 3), true, false},
		{"two processes, equal", loads(0, 0, 0, 2, 0), loads(1, 1, 0, 2, 3), true, false},
		{"two processes, neither", loads(0, 0, 0, 2, 0), loads(1, 1, 0, 1, 3), false, false},
		{"two processes, both", loads(0, 0, 0, 2, 3), loads(1, 1, 0, 2, 3), true, true},
		{"two of three processes", loads(2, 0, 0, 0, 0, 4), loads(0, 1, 0, 1, 9, 4), true, false},
		{"only the number of the first process counts", loads(0, 0, 0, 1, 9, 9), loads(1, 1, 0, 1, 2, 2), true, true},
		{"At, Store and Cell do not count", stores(0, 9, 2, 1, 0), loads(1, 1, 0, 1, 1), true, false},
		{"a negative process", loads(-1, 0, 0, 1, 2), loads(0, 1, 0, 1, 2), false, true},
		{"both are negative processes", loads(-1, 0, 0, 1, 2), loads(-1, 1, 0, 2, 3), false, false},
		{"the least process", loads(math.MinInt, 0, 0, 1, 2), loads(0, 1, 0, 1, 2), false, true},
		{"the greatest process", loads(math.MaxInt, 0, 0, 1, 2), loads(1, 1, 0, 1, 2), false, true},
		{"past the end of the first clock", loads(1, 0, 0, 1), loads(0, 1, 0, 1, 2), false, true},
		{"past the end of the second clock", loads(1, 0, 0, 1, 2), loads(0, 1, 0, 1), false, true},
		{"past the end of both clocks", loads(1, 0, 0, 1), loads(1, 1, 0, 2), false, false},
		{"just past the end", loads(2, 0, 0, 0, 0), loads(0, 1, 0, 9, 9), false, false},
		{"past the end with the same process", loads(3, 0, 0, 1, 2, 3), loads(3, 1, 0, 1, 2, 3, 4), false, false},
		{"the first clock is empty", loads(0, 0, 0), loads(1, 1, 0, 1, 2), false, false},
		{"the second clock is empty", loads(0, 0, 0, 1, 2), loads(1, 1, 0), false, false},
		{"both clocks are empty", loads(0, 0, 0), loads(1, 1, 0), false, false},
		{"both are the zero value", impl.Mark{}, impl.Mark{}, false, false},
		{"the second one is no process", loads(0, 0, 0, 1), loads(7, 1, 0, 1), true, false},
		{"clocks longer than the processes", loads(4, 0, 0, 0, 0, 0, 0, 6), loads(5, 1, 0, 0, 0, 0, 0, 6, 1), true, false},
		{"a cell that is none", loads(0, 0, -7, 1, 0), stores(1, -1, 99, 1, 1), true, false},
		{"negative numbers, less", loads(0, 0, 0, -2, 0), loads(1, 1, 0, -1, 1), true, false},
		{"negative numbers, greater", loads(0, 0, 0, -1, 5), loads(1, 1, 0, -2, 1), false, true},
		{"a negative and zero", loads(0, 0, 0, 0, 0), loads(1, 1, 0, -1, 1), false, false},
		{"the ends of int", loads(0, 0, 0, math.MinInt), loads(0, 1, 0, math.MaxInt), true, false},
	} {
		if got, round := impl.MarkAhead(c.a, c.b), impl.MarkAhead(c.b, c.a); got != c.want || round != c.round {
			t.Errorf("%s: %v, and changed round %v", c.name, got, round)
		}
		if impl.MarkAhead(c.a, c.a) || impl.MarkAhead(c.b, c.b) {
			t.Errorf("%s: a mark is ahead of itself", c.name)
		}
	}
}

// checkRaces compares the races, given as pairs.
func checkRaces(t *testing.T, p [][]impl.Stmt, picks []int, want ...impl.Race) {
	t.Helper()
	if _, got := checkAll(t, p, picks); !slices.Equal(got, want) {
		t.Errorf("the races of %v are %v, not %v", picks, got, want)
	}
}

func TestRaces(t *testing.T) {
	pair := func(i, j int) impl.Race { return impl.Race{I: i, J: j} }
	one := []impl.Race{pair(0, 1)}
	for _, c := range []struct {
		name  string
		texts []string
		picks []int
		want  []impl.Race
	}{
		{"two loads", []string{"load 0 0", "load 1 0"}, ints(0, 1), nil},
		{"a load and a store", []string{"load 0 0", "store 0 0"}, ints(0, 1), one},
		{"a store and a load", []string{"load 0 0", "store 0 0"}, ints(1, 0), one},
		{"two stores", []string{"store 2 0", "store 2 1"}, ints(0, 1), one},
		{"different cells", []string{"store 0 0 load 0 2", "store 1 0 load 0 2"}, ints(0, 1, 0, 1), nil},
		{"a register is no cell", []string{"load 1 0", "store 1 0"}, ints(0, 1), nil},
		{"one process", []string{"store 0 0 load 0 0 store 0 0", "-"}, ints(0, 0, 0, 1), nil},
		{"one process alone", []string{"store 0 0 load 0 0 store 0 0"}, fine(3), nil},
		{"steps between", []string{"yield store 1 0 say 0", "yield yield load 0 1"}, ints(0, 1, 0, 0, 1, 1), one},
		{"a pick that is not done", []string{"store 1 0", "load 0 1"}, ints(0, 0, 0), nil},
		{"the first and the last of three", []string{"store 1 0", "-", "load 0 1"}, ints(2, 1, 0), one},
		{"several of three", []string{"store 0 0", "load 0 0 store 0 0", "load 0 0"}, ints(0, 1, 2, 1), []impl.Race{pair(0, 1), pair(0, 2), pair(0, 3), pair(2, 3)}},
		{"all of three", []string{"store 0 0 load 1 0", "store 0 0", "store 0 0"}, ints(0, 1, 2, 0), []impl.Race{pair(0, 1), pair(0, 2), pair(1, 2), pair(1, 3), pair(2, 3)}},
		{"several cells", []string{"store 0 0 store 1 0", "load 0 1 load 0 0", "store 2 0 load 0 1"}, ints(0, 1, 2, 0, 1, 2), []impl.Race{pair(0, 4), pair(1, 3), pair(3, 5)}},
		{"one with two of another", []string{"store 0 0", "load 0 0 load 0 0"}, ints(1, 0, 1), []impl.Race{pair(0, 1), pair(1, 2)}},
		{"in one monitor", []string{"in 0 [ store 0 0 ]", "in 0 [ load 0 0 ]"}, ints(0, 0, 0, 1, 1, 1), nil},
		{"in one monitor, round", []string{"in 0 [ store 0 0 ]", "in 0 [ load 0 0 ]"}, ints(1, 1, 1, 0, 0, 0), nil},
		{"in two monitors", []string{"in 0 [ store 0 0 ]", "in 1 [ load 0 0 ]"}, ints(0, 0, 0, 1, 1, 1), one},
		{"one of two in a monitor", []string{"in 0 [ store 0 0 ]", "store 0 0"}, ints(0, 0, 0, 1), one},
		{"in front of a monitor and in it", []string{"store 0 0 in 0 [ ]", "in 0 [ load 0 0 ]"}, ints(0, 0, 0, 1, 1), nil},
		{"behind a monitor and in it", []string{"in 0 [ ] store 0 0", "in 0 [ load 0 0 ]"}, ints(0, 0, 0, 1, 1), one},
		{"in front of a monitor, too late", []string{"store 0 0 in 0 [ ]", "in 0 [ load 0 0 ]"}, ints(1, 1, 1, 0, 0, 0), one},
		{"a monitor knows the first only", []string{"store 0 0 in 0 [ ] store 0 0", "in 0 [ load 0 0 ]"}, ints(0, 0, 0, 0, 1, 1), []impl.Race{pair(1, 2)}},
		{"what a wait frees", []string{"in 0 [ store 0 0 wait 0 ]", "in 0 [ load 0 0 ]"}, ints(0, 0, 0, 1, 1), nil},
		{"what is done behind a wait", []string{"in 0 [ wait 0 load 0 0 ]", "in 0 [ store 0 0 signal 0 ]"}, ints(0, 0, 1, 1, 1, 1, 0, 0), nil},
		{"a signal", []string{"in 0 [ wait 0 ] load 0 0", "store 0 0 signal 0"}, ints(0, 0, 1, 1, 0, 0, 0), nil},
		{"another's signal", []string{"in 0 [ wait 0 ] load 0 0", "store 0 0 signal 0", "signal 0"}, ints(0, 0, 1, 2, 0, 0, 0), one},
		{"no signal", []string{"in 0 [ ] load 0 0", "store 0 0"}, ints(0, 1, 0, 0), one},
		{"a signal ahead of the store", []string{"in 0 [ wait 0 ] load 0 0", "signal 0 store 0 0"}, ints(0, 0, 1, 1, 0, 0, 0), one},
		{"a signal that comes before the wait", []string{"in 0 [ wait 0 ] load 0 0", "store 0 0 signal 0", "signal 0"}, ints(1, 1, 0, 0, 2, 0, 0, 0), one},
		{"a signal to the first", []string{"in 0 [ wait 0 ] load 0 0", "in 1 [ wait 0 ] load 0 0", "store 0 0 signal 0"}, ints(0, 0, 1, 1, 2, 2, 0, 0, 0), nil},
		{"a signal to the other one", []string{"in 0 [ wait 0 ] load 0 0", "in 1 [ wait 0 ] store 0 0", "signal 0 store 0 0 signal 0"}, ints(0, 0, 1, 1, 2, 2, 2, 0, 0, 0, 1, 1, 1), []impl.Race{pair(0, 1), pair(1, 2)}},
		{"who signals learns nothing", []string{"in 0 [ store 0 0 wait 0 ]", "signal 0 load 0 0"}, ints(0, 0, 0, 1, 1), one},
		{"by way of another process", []string{"store 0 0 in 0 [ ]", "in 0 [ ] in 1 [ ]", "in 1 [ ] store 0 0"}, ints(0, 0, 0, 1, 1, 1, 1, 2, 2, 2), nil},
	} {
		checkRaces(t, program(t, c.texts...), c.picks, c.want...)
		if t.Failed() {
			t.Fatal(c.name)
		}
	}
}

// TestRacesAreOrdered has one process store between the stores of others, so that the order by J is another one.
func TestRacesAreOrdered(t *testing.T) {
	p := program(t, "store 0 0 store 0 0 store 0 0", "store 0 0 store 0 0 store 0 0", "load 0 0 load 0 0 load 0 0")
	var want []impl.Race
	picks := ints(0, 1, 2, 2, 1, 0, 1, 0, 2)
	for i := range 9 {
		for j := i + 1; j < 9; j++ {
			if picks[i] != picks[j] {
				want = append(want, impl.Race{I: i, J: j})
			}
		}
	}
	checkRaces(t, p, picks, want...)
	if len(want) != 27 {
		t.Error(want)
	}
}

func TestRacesOfMostPicks(t *testing.T) {
	p := program(t, "num 0 1 while 0 [ store 0 0 ]", "num 0 1 while 0 [ load 0 0 ]")
	picks := slices.Repeat(ints(0, 1), 100)
	// Process 1 loads what is 1, so that both go on, and each stores or loads in every other of its 100 steps but the first.
	marks, races := checkAll(t, p, picks)
	if len(marks) != 98 || len(races) != 49*49 {
		t.Errorf("%d marks and %d races", len(marks), len(races))
	}
	for _, many := range []int{201, 300} {
		if races := impl.RacesOf(p, slices.Repeat(picks, 2)[:many]); len(races) != 0 {
			t.Errorf("%d picks have races", many)
		}
	}
}

// racy are programs in which monitors and signals order some uses of a cell, and others not.
var racy = [][]string{
	{"in 0 [ store 0 0 wait 0 load 0 0 ] store 0 0", "in 0 [ load 0 0 signal 0 ] store 0 0", "store 0 0 in 0 [ ] load 0 0"},
	{"load 0 0 in 0 [ wait 1 ] load 0 0", "store 0 0 signal 1 store 0 0", "in 0 [ store 0 0 ] signal 1 load 0 0"},
	{"in 0 [ wait 0 ] store 1 0", "in 1 [ wait 0 ] load 0 1", "store 1 0 signal 0 store 1 0 signal 0"},
	{"num 0 1 while 0 [ in 0 [ store 2 0 ] load 1 2 ]", "in 0 [ wait 1 load 0 2 wait 1 ]", "signal 1 store 2 0 in 1 [ signal 1 ]"},
	{"in 0 [ store 0 0 ] in 1 [ load 1 1 ]", "in 1 [ store 1 0 ] in 0 [ load 1 0 ]", "store 0 0 in 1 [ ] load 0 0"},
}

// TestClocksOfAllShortPlays tries every sequence of nine picks of the three processes against the model.
func TestClocksOfAllShortPlays(t *testing.T) {
	seen := map[string]int{}
	for _, texts := range slices.Concat(racy, lively) {
		p := program(t, texts...)
		for picks := range sequences(9, 3) {
			marks, races := checkAll(t, p, picks)
			if t.Failed() {
				t.Fatalf("%q, %v", texts, picks)
			}
			seen["race"] += len(races)
			seen["ahead"] += len(clashes(marks)) - len(races)
		}
	}
	checkHappened(t, seen, "race", "ahead")
}

// picks makes picks, some of which are no process.
func (m maker) picks(many int) []int {
	picks := make([]int, m.IntN(201))
	for i := range picks {
		picks[i] = m.IntN(many)
		if m.IntN(12) == 0 {
			picks[i] = m.IntN(many+2) - 1
		}
	}
	return picks
}

// TestClocksOfMadePlays plays made programs against the model.
func TestClocksOfMadePlays(t *testing.T) {
	m := maker{rand.New(rand.NewPCG(7, 14))}
	seen := map[string]int{}
	for range 3000 {
		var p [][]impl.Stmt
		for range 1 + m.IntN(3) {
			process := m.process()
			for i := range process {
				// There is more to see where more of what is outside of all monitors uses a cell.
				if s := &process[i]; s.Kind == impl.StmtSay || s.Kind == impl.StmtYield {
					*s = []impl.Stmt{load(m.IntN(3), m.IntN(2)), store(m.IntN(2), m.IntN(3))}[m.IntN(2)]
				}
			}
			p = append(p, process)
		}
		picks := m.picks(len(p))
		marks, races := checkAll(t, p, picks)
		if t.Failed() {
			t.Fatalf("%v, %v", p, picks)
		}
		seen["race"] += len(races)
		seen["ahead"] += len(clashes(marks)) - len(races)
		seen["no race at all"] += oneIf(len(races) == 0 && len(clashes(marks)) > 0)
	}
	checkHappened(t, seen, "race", "ahead", "no race at all")
}

// checkNoRaces holds promise 8, and counts the pairs that would be races without a monitor.
func checkNoRaces(t *testing.T, p [][]impl.Stmt, picks []int) int {
	t.Helper()
	marks, races := checkAll(t, p, picks)
	if len(races) != 0 {
		t.Errorf("%v has the races %v", picks, races)
	}
	return len(clashes(marks))
}

func TestNoRacesOfLockedPrograms(t *testing.T) {
	m := maker{rand.New(rand.NewPCG(77, 14))}
	pairs := 0
	for _, texts := range locked {
		p := program(t, texts...)
		if !impl.WholeOk(p, lockedOwner) {
			t.Errorf("%q is not whole", texts)
		}
		for gap := 1; gap <= 12; gap++ {
			for _, gaps := range [][]int{ints(gap), ints(gap, 1), ints(2, gap, 5)} {
				c, _ := impl.CpuRun(p, gaps, 90)
				pairs += checkNoRaces(t, p, c.Picks)
			}
		}
		for range 200 {
			pairs += checkNoRaces(t, p, m.picks(len(p)))
		}
		if t.Failed() {
			t.Fatalf("%q", texts)
		}
	}
	if pairs == 0 {
		t.Error("there is no pair that could race")
	}
}

// signaling puts a signal in front of a statement of each process that is in no monitor.
func (m maker) signaling(p [][]impl.Stmt) [][]impl.Stmt {
	for i, process := range p {
		p[i] = slices.Insert(process, m.IntN(len(process)+1), signal(m.IntN(2)))
	}
	return p
}

// TestNoRacesOfMadePrograms has one program in two use signals outside of their monitors: cells alone have to be guarded.
func TestNoRacesOfMadePrograms(t *testing.T) {
	m := maker{rand.New(rand.NewPCG(777, 14))}
	seen := map[string]int{}
	for range 4000 {
		owner := m.owner()
		p := m.guarded(owner)
		whole := m.IntN(2) == 0
		if !whole {
			p = m.signaling(p)
		}
		if !impl.ProgOk(p) || impl.WholeOk(p, owner) != whole {
			t.Fatalf("whole with the owners %v: %v, %v", owner, !whole, p)
		}
		picks := m.picks(len(p))
		pairs := checkNoRaces(t, p, picks)
		if t.Failed() {
			t.Fatalf("%v, %v", p, picks)
		}
		seen[fmt.Sprint(len(p), " processes, whole ", whole)] += pairs
		countCuts(p, slices.DeleteFunc(picks, func(who int) bool { return who < 0 || who >= len(p) }), seen)
	}
	checkHappened(t, seen, "2 processes, whole true", "3 processes, whole true", "2 processes, whole false", "3 processes, whole false")
	checkHappened(t, seen, "another is inside", "both are inside", "back", "kind 9 inside true")
}

// withoutRooms makes each StmtIn a step without effect.
func withoutRooms(process []impl.Stmt) []impl.Stmt {
	out := slices.Clone(process)
	for i, s := range out {
		out[i].Body, out[i].Else = withoutRooms(s.Body), withoutRooms(s.Else)
		if s.Kind == impl.StmtIn {
			out[i] = yields()
		}
	}
	return out
}

// TestEachPairIsARaceWithoutMonitors has signals, for which nobody can wait.
func TestEachPairIsARaceWithoutMonitors(t *testing.T) {
	m := maker{rand.New(rand.NewPCG(7777, 14))}
	pairs := map[int]int{}
	for range 3000 {
		var p [][]impl.Stmt
		for range 1 + m.IntN(3) {
			left := 12
			process := append(withoutRooms(m.stmts(&left, 3, -1)), load(0, m.IntN(3)), store(m.IntN(3), 0))
			m.Shuffle(len(process), func(i, j int) { process[i], process[j] = process[j], process[i] })
			p = append(p, process)
		}
		picks := m.picks(len(p))
		marks, races := checkAll(t, p, picks)
		if want := clashes(marks); !slices.Equal(races, want) || t.Failed() {
			t.Fatalf("%v: the races of %v are %v, not %v", p, picks, races, want)
		}
		pairs[len(p)] += len(races)
	}
	if pairs[1] != 0 || pairs[2] == 0 || pairs[3] == 0 {
		t.Error(pairs)
	}
}

// A single use outside of the monitor is a race if nothing else orders it.
func TestOneUseOutsideIsARace(t *testing.T) {
	guarded := []string{"in 0 [ load 0 0 add 0 0 store 0 0 ]", "in 0 [ load 0 0 store 0 0 ]"}
	picks := ints(0, 0, 0, 0, 0, 1, 1, 1, 1, 2, 2, 2, 2)
	for bare, races := range map[string][]impl.Race{
		"in 0 [ load 0 0 ]": nil, "in 0 [ store 0 0 ]": nil, "load 0 0": {{I: 1, J: 4}, {I: 3, J: 4}}, "store 0 0": {{I: 0, J: 4}, {I: 1, J: 4}, {I: 2, J: 4}, {I: 3, J: 4}},
		"in 1 [ load 0 0 ]": {{I: 1, J: 4}, {I: 3, J: 4}}, "in 0 [ ] load 0 0": nil, "load 0 1": nil,
	} {
		checkRaces(t, program(t, append(guarded, bare)...), picks, races...)
		if t.Failed() {
			t.Fatal(bare)
		}
	}
}

// raced is a program, the last process of which has the memory of the one before it, and picks with marks and races.
func raced(t *testing.T) ([][]impl.Stmt, []int) {
	t.Helper()
	p := program(t,
		"store 0 0 in 0 [ wait 0 if 1 [ load 0 0 ] [ load 1 0 ] ] store 0 0",
		"in 0 [ signal 0 while 0 [ ] store 0 0 ] load 0 0")
	return append(p, p[1]), ints(0, 0, 0, 1, 1, 1, 1, 1, 1, 0, 0, 2, 0, 0, 0, 2, 2, 2, 2, 2, 2)
}

func markPlaces(marks []impl.Mark) []any {
	out := places(marks)
	for _, mark := range marks {
		out = append(out, places(mark.Clock)...)
	}
	return out
}

func TestClocksShareNoMemory(t *testing.T) {
	p, picks := raced(t)
	all := slices.Concat(stmtPlaces(p[0]), stmtPlaces(p[1]), places(p), places(picks))
	for steps := range len(picks) + 1 {
		for range 2 {
			all = slices.Concat(all, markPlaces(impl.MarksOf(p, picks[:steps])), places(impl.RacesOf(p, picks[:steps])))
		}
	}
	if marks, races := checkAll(t, p, picks); len(marks) != 7 || len(races) < 3 {
		t.Errorf("%s, %v", shownMarks(marks), races)
	}
	for _, pair := range [][2][]int{{ints(1, 2), ints(3, 4)}, {ints(1, 2), nil}, {nil, ints(1, 2)}, {ints(1), ints(3, 4)}, {ints(5, 6), ints(3)}, {ints(-1), ints(-2)}} {
		all = slices.Concat(all, places(pair[0]), places(pair[1]))
		for range 2 {
			all = slices.Concat(all, places(impl.ClockJoin(pair[0], pair[1])), places(impl.ClockJoin(pair[1], pair[0])), places(impl.ClockJoin(pair[0], pair[0])))
		}
	}
	checkApart(t, all)
}

// A result stays as it is when an argument or another result is changed behind the call.
func TestClockResultsStay(t *testing.T) {
	p, picks := raced(t)
	a, b := ints(1, 5, 2), ints(3, 2)
	look := func(marks []impl.Mark, races []impl.Race, joined, alone []int) string {
		return shownMarks(marks) + fmt.Sprint(races, joined, alone)
	}
	marks, races, joined, alone := impl.MarksOf(p, picks), impl.RacesOf(p, picks), impl.ClockJoin(a, b), impl.ClockJoin(a, nil)
	want := look(marks, races, joined, alone)
	others := impl.MarksOf(p, picks)
	for _, mark := range others {
		clear(mark.Clock[:cap(mark.Clock)])
	}
	clear(others)
	clear(impl.RacesOf(p, picks))
	clear(impl.ClockJoin(a, b))
	clearProgram(p)
	for _, one := range [][]int{picks, a, b} {
		clear(one)
	}
	if got := look(marks, races, joined, alone); got != want {
		t.Errorf("%s has become %s", want, got)
	}
}

func TestClocksChangeNoArgument(t *testing.T) {
	p, picks := raced(t)
	p, picks = roomyProgram(p), roomy(picks, 55)
	a, b := roomy(ints(1, -5, 2), 56), roomy(ints(-3, 2), 57)
	first, second := loads(0, 1, 2, a...), stores(1, 2, 3, b...)
	first.Clock, second.Clock = a, b
	look := func() string {
		all := fmt.Sprint(p[:cap(p)], picks[:cap(picks)], a[:cap(a)], b[:cap(b)], first, second)
		for _, process := range p {
			all += fmt.Sprint(slicesOf(process))
		}
		return all
	}
	before := look()
	impl.ClockJoin(a, b)
	impl.ClockJoin(b, a)
	impl.ClockJoin(a, nil)
	impl.ClockUnder(a, b)
	impl.ClockUnder(b, a)
	for steps := range len(picks) + 1 {
		impl.MarksOf(p, picks[:steps])
		impl.RacesOf(p, picks[:steps])
	}
	impl.MarkAhead(first, second)
	impl.MarkAhead(second, first)
	if after := look(); after != before {
		t.Errorf("%s has become %s", before, after)
	}
}
