package tests

import (
	"fmt"
	"math"
	"math/rand/v2"
	"slices"
	"testing"

	"loop.example/changeringer/impl"
)

// These tests hold promise 7: if each cell and signal is used only inside of its monitor, the result is that of an
// execution in which no process is interrupted inside of a monitor.

// allOwners returns every ownership.
func allOwners() [][]int {
	var out [][]int
	for i := range 32 {
		out = append(out, ints(i&1, i>>1&1, i>>2&1, i>>3&1, i>>4&1))
	}
	return out
}

// uses holds the statements that use a cell or a signal, and what they use, by its index in an ownership.
var uses = []struct {
	stmt impl.Stmt
	what int
}{
	{load(2, 0), 0}, {load(2, 1), 1}, {load(0, 2), 2}, {store(0, 2), 0}, {store(1, 2), 1}, {store(2, 0), 2},
	{wait(0), 3}, {wait(1), 4}, {signal(0), 3}, {signal(1), 4},
}

// outsideOfRooms puts a statement into each place of a process that is in no monitor.
func outsideOfRooms(s impl.Stmt) [][]impl.Stmt {
	out := [][]impl.Stmt{
		list(s), list(s, in(0)), list(in(1), s), list(in(0), s, in(0)), list(in(1), s, in(1)), list(in(0, while(0)), s),
		list(while(0, in(0), s)), list(while(1, s, in(1))), list(choose(0, list(in(0)), list(s))), list(choose(1, list(s), list(in(1)))),
	}
	for _, wrap := range wraps {
		out = append(out, list(wrap(s)), list(in(1), wrap(s)), list(wrap(in(0)), s))
		for _, other := range wraps {
			out = append(out, list(wrap(other(s))))
		}
	}
	return out
}

// insideOfRoom puts a statement into each place of a process that is in that monitor.
func insideOfRoom(s impl.Stmt, room int) [][]impl.Stmt {
	out := [][]impl.Stmt{
		list(in(room, s)), list(in(room, yields(), s)), list(in(1-room), in(room, s)), list(in(room, s), in(1-room)),
		list(in(room, while(0), s)), list(in(room, while(1, s))), list(in(room, choose(1, nil, list(s)))), list(while(1, in(1-room), in(room, s))),
	}
	for _, wrap := range wraps {
		out = append(out, list(in(room, wrap(s))), list(wrap(in(room, s))), list(in(room, wrap(yields()), s)))
	}
	for _, wrap := range wraps {
		for _, other := range wraps {
			out = append(out, list(wrap(in(1-room)), other(in(room, s))))
		}
	}
	return out
}

// inPrograms puts a process into programs of one to three processes.
func inPrograms(process []impl.Stmt) [][][]impl.Stmt {
	other := list(in(0, yields()), say(0))
	return [][][]impl.Stmt{{process}, {process, other}, {other, process}, {nil, process, other}, {other, other, process}}
}

func TestWholeOkOfEachUseInEachPlace(t *testing.T) {
	check := func(process []impl.Stmt, what, room int) {
		t.Helper()
		for _, p := range inPrograms(process) {
			for _, owner := range allOwners() {
				if got := impl.WholeOk(p, owner); got != (owner[what] == room) {
					t.Errorf("%v with the owners %v: %v", p, owner, got)
				}
			}
		}
	}
	for _, use := range uses {
		for _, process := range outsideOfRooms(use.stmt) {
			check(process, use.what, -1)
		}
		for room := range 2 {
			for _, process := range insideOfRoom(use.stmt, room) {
				checkValid(t, process)
				check(process, use.what, room)
			}
		}
	}
}

func TestWholeOkOfEveryUse(t *testing.T) {
	for _, c := range []struct {
		texts []string
		good  [][]int
	}{
		{[]string{"-"}, allOwners()},
		{[]string{"num 0 1 say 0 yield add 0 1 if 0 [ in 0 [ ] ] [ while 1 [ in 1 [ ] ] ]", "in 1 [ say 0 ]"}, allOwners()},
		{[]string{"in 0 [ load 0 0 load 1 1 load 2 2 wait 0 signal 1 ]"}, [][]int{{0, 0, 0, 0, 0}}},
		{[]string{"in 1 [ store 0 0 store 1 0 store 2 0 signal 0 wait 1 ]"}, [][]int{{1, 1, 1, 1, 1}}},
		{[]string{"in 0 [ load 0 0 store 2 0 wait 1 ]", "in 1 [ store 1 0 signal 0 ]", "in 0 [ store 0 0 load 1 2 signal 1 ]"}, [][]int{{0, 1, 0, 1, 0}}},
		{[]string{"in 1 [ load 0 0 ] in 0 [ load 0 1 ]", "in 1 [ wait 0 ] in 0 [ wait 1 ]"}, [][]int{{1, 0, 0, 1, 0}, {1, 0, 1, 1, 0}}},
		// A cell or a signal that is used in two monitors has no owner.
		{[]string{"in 0 [ load 0 1 ] in 1 [ load 0 1 ]"}, nil},
		{[]string{"in 0 [ load 0 1 ]", "in 1 [ store 1 0 ]"}, nil},
		{[]string{"in 0 [ wait 0 ]", "-", "in 1 [ signal 0 ]"}, nil},
		// One use outside is enough.
		{[]string{"in 0 [ load 0 1 ] load 0 1", "in 0 [ store 1 0 ]"}, nil},
		{[]string{"in 0 [ wait 0 ]", "in 0 [ signal 0 ]", "signal 0"}, nil},
	} {
		p := program(t, c.texts...)
		for _, owner := range allOwners() {
			want := slices.ContainsFunc(c.good, func(good []int) bool { return slices.Equal(good, owner) })
			if got := impl.WholeOk(p, owner); got != want {
				t.Errorf("%q with the owners %v: %v", c.texts, owner, got)
			}
		}
	}
}

func TestWholeOkOfOwnersThatAreNone(t *testing.T) {
	none := program(t, "-")
	all := program(t, "in 0 [ load 0 0 load 1 1 load 2 2 wait 0 signal 1 ]")
	for _, p := range [][][]impl.Stmt{none, all} {
		for at := range 5 {
			for _, bad := range []int{-1, 2, 3, -2, math.MinInt, math.MaxInt, 1 << 32, -1 << 32} {
				owner := fine(5)
				owner[at] = bad
				if impl.WholeOk(p, owner) {
					t.Errorf("%v with the owners %v", p, owner)
				}
			}
		}
		for _, many := range []int{0, 1, 2, 3, 4, 6, 7, 10, 1000} {
			if impl.WholeOk(p, fine(many)) || impl.WholeOk(p, fine(5000)[:many]) {
				t.Errorf("%v with %d owners", p, many)
			}
		}
		if impl.WholeOk(p, nil) || !impl.WholeOk(p, fine(5)) || !impl.WholeOk(p, fine(6)[:5]) {
			t.Errorf("%v with no owners, or with five", p)
		}
	}
	if impl.WholeOk(program(t, "load 0 0"), ints(-1, 0, 0, 0, 0)) || impl.WholeOk(program(t, "signal 1"), ints(0, 0, 0, 0, -1)) {
		t.Error("a use outside of all monitors with an owner that is none")
	}
}

func TestWholeOkOfInvalidPrograms(t *testing.T) {
	for name, p := range invalidPrograms() {
		for _, owner := range append(allOwners(), nil, fine(4)) {
			if impl.WholeOk(p, owner) {
				t.Errorf("%s with the owners %v", name, owner)
			}
		}
	}
}

func TestWholeOkOfMadePrograms(t *testing.T) {
	m := maker{rand.New(rand.NewPCG(61, 14))}
	seen := map[string]int{}
	for range 2000 {
		var p [][]impl.Stmt
		for range 1 + m.IntN(3) {
			left := 1 + m.IntN(14)
			p = append(p, m.stmts(&left, 3, -1))
		}
		if m.IntN(2) == 0 {
			p = m.guarded(m.owner())
		}
		for _, owner := range allOwners() {
			want := modelWholeOk(p, owner)
			if got := impl.WholeOk(p, owner); got != want {
				t.Fatalf("%v with the owners %v: %v", p, owner, got)
			}
			seen[fmt.Sprint(want, len(usesOf(slices.Concat(p...))) > 0)]++
		}
	}
	if seen["true true"] == 0 || seen["false true"] == 0 || seen["true false"] == 0 {
		t.Error(seen)
	}
}

// checkOrder compares the entries of picks, and those of all that these begin with.
func checkOrder(t *testing.T, p [][]impl.Stmt, picks, want []int) {
	t.Helper()
	if got := impl.WholeOrder(p, picks); !slices.Equal(got, want) {
		t.Errorf("the order of %v is %v, not %v", picks, got, want)
	}
	for steps := range picks {
		if got := impl.WholeOrder(p, picks[:steps]); !slices.Equal(got, modelOrder(p, picks[:steps])) {
			t.Errorf("the order of %v is %v", picks[:steps], got)
		}
	}
}

func TestWholeOrder(t *testing.T) {
	for _, c := range []struct {
		name        string
		texts       []string
		picks, want []int
	}{
		{"no picks", []string{"in 0 [ ]"}, nil, nil},
		{"no monitors", []string{"say 0 yield", "num 0 1 if 0 [ say 0 ] [ ]"}, ints(0, 1, 1, 0, 1), nil},
		{"one entry", []string{"in 1 [ say 0 ]"}, ints(0, 0, 0, 0), ints(0)},
		{"behind others", []string{"say 0 yield in 0 [ say 0 yield ] say 0"}, fine(7), ints(0)},
		{"several entries", []string{"in 0 [ ] in 1 [ ] in 0 [ yield ]", "in 1 [ ] say 0 in 1 [ ]"}, ints(0, 1, 0, 1, 0, 0, 1, 1, 0, 0, 1), ints(0, 1, 0, 1, 0)},
		{"the order of the steps", []string{"in 0 [ ]", "in 0 [ ]", "in 0 [ ]"}, ints(2, 2, 0, 0, 1, 1), ints(2, 0, 1)},
		{"both monitors at a time", []string{"in 0 [ ]", "in 1 [ ]"}, ints(1, 0, 0, 1), ints(1, 0)},
		{"held in front of a monitor", []string{"in 0 [ yield ]", "in 0 [ ]"}, ints(0, 1, 1, 0, 1, 0, 1, 1, 1), ints(0, 1)},
		{"held and never in", []string{"in 0 [ yield ]", "in 0 [ ]"}, ints(0, 1, 1, 0, 1), ints(0)},
		{"done", []string{"in 0 [ ]", "-"}, ints(1, 0, 0, 0, 1, 0), ints(0)},
		{"no process", []string{"in 0 [ ]", "in 1 [ ]"}, ints(-1, 2, 0, 5, -2, 1, math.MinInt, math.MaxInt, 1<<32, 3, 0), ints(0, 1)},
		{"only no process", []string{"in 0 [ ]"}, ints(-1, 1, 2, 1), nil},
		{"back from a wait", []string{"in 0 [ wait 0 say 0 ]", "in 0 [ signal 0 yield ]"}, ints(0, 0, 0, 1, 0, 1, 0, 1, 1, 0, 0, 0, 0), ints(0, 1, 0)},
		{"back to a StmtLeave", []string{"in 1 [ wait 1 ]", "signal 1"}, ints(0, 0, 1, 0, 0), ints(0, 0)},
		{"back to another wait", []string{"in 1 [ wait 1 wait 1 ]", "signal 1 signal 1"}, ints(0, 0, 0, 1, 0, 0, 0, 1, 0, 0), ints(0, 0, 0)},
		{"back to nobody's signal", []string{"in 1 [ wait 1 ]", "signal 0"}, ints(0, 0, 1, 0, 0), ints(0)},
		{"back before another gets in", []string{"in 0 [ wait 0 ]", "in 0 [ signal 0 ]", "in 0 [ ]"}, ints(0, 0, 1, 2, 1, 1, 0, 2, 0, 2), ints(0, 1, 0, 2)},
		{"another gets in before the one that is back", []string{"in 0 [ wait 0 ]", "in 0 [ signal 0 ]", "in 0 [ ]"}, ints(0, 0, 1, 2, 1, 1, 2, 0, 2, 0), ints(0, 1, 2, 0)},
		{"in a while", []string{"num 0 2 num 1 1 while 0 [ in 1 [ ] sub 0 1 ]"}, fine(14), ints(0, 0)},
		{"an if in front", []string{"if 0 [ in 0 [ ] ] [ in 1 [ ] in 0 [ ] ]"}, fine(6), ints(0, 0)},
	} {
		checkOrder(t, program(t, c.texts...), c.picks, c.want)
		if t.Failed() {
			t.Fatal(c.name)
		}
	}
}

func TestWholeOrderOfMostPicks(t *testing.T) {
	// The entries are the steps 5, 8, .. 200.
	p := program(t, "num 0 1 yield yield while 0 [ in 0 [ ] ]", "-")
	for many, want := range map[int]int{0: 0, 4: 0, 5: 1, 199: 65, 200: 66, 201: 0, 202: 0, 400: 0, 5000: 0} {
		if got := impl.WholeOrder(p, fine(many)); !slices.Equal(got, fine(want)) {
			t.Errorf("the order of %d picks is %v", many, got)
		}
		for _, who := range []int{-1, 1, 2} {
			if got := impl.WholeOrder(p, slices.Repeat(ints(who), many)); len(got) != 0 {
				t.Errorf("the order of %d picks of %d is %v", many, who, got)
			}
		}
	}
}

func TestWholeOrderOfInvalidPrograms(t *testing.T) {
	for name, p := range invalidPrograms() {
		for _, picks := range [][]int{nil, {0}, {0, 1, -1, 2}, fine(200), fine(201)} {
			if got := impl.WholeOrder(p, picks); len(got) != 0 {
				t.Errorf("%s: the order is %v", name, got)
			}
		}
	}
}

// TestWholeOrderOfAllShortPlays tries every sequence of eight picks of the three processes against the model.
func TestWholeOrderOfAllShortPlays(t *testing.T) {
	for _, texts := range lively {
		p := program(t, texts...)
		for picks := range sequences(8, 3) {
			if got := impl.WholeOrder(p, picks); !slices.Equal(got, modelOrder(p, picks)) {
				t.Fatalf("%q: the order of %v is %v", texts, picks, got)
			}
		}
	}
}

// checkRun compares the configuration of an order, also with the model's.
func checkRun(t *testing.T, p [][]impl.Stmt, order []int, want impl.World) {
	t.Helper()
	w, ok := impl.WholeRun(p, order)
	if !ok {
		t.Errorf("there is no run of %v", order)
	}
	checkWorld(t, w, want)
	checkRunModel(t, p, order)
}

// checkNoRun makes sure that there is no run of an order, and that nothing is returned then.
func checkNoRun(t *testing.T, p [][]impl.Stmt, order []int) {
	t.Helper()
	w, ok := impl.WholeRun(p, order)
	if ok {
		t.Errorf("there is a run of %v", order)
	}
	checkWorld(t, w, impl.World{})
}

// checkRunModel compares with the model, and makes sure that a run leaves nobody in a monitor and nobody who could go
// on without an entry.
func checkRunModel(t *testing.T, p [][]impl.Stmt, order []int) (impl.World, bool) {
	t.Helper()
	w, ok := impl.WholeRun(p, order)
	want, wanted := modelRun(p, order)
	if ok != wanted {
		t.Errorf("a run of %v: %v", order, ok)
	}
	if !ok {
		checkWorld(t, w, impl.World{})
		return w, ok
	}
	checkWorld(t, w, want)
	checkMonitors(t, w)
	for who, proc := range w.Procs {
		enters := proc.Mode == impl.ProcBack || proc.Mode == impl.ProcRuns && len(proc.Todo) > 0 && proc.Todo[0].Kind == impl.StmtIn
		if !enters && proc.Mode != impl.ProcWaits && len(proc.Todo) > 0 || slices.Contains(w.Rooms, 1+who) {
			t.Errorf("process %d is not at an end: %s", who, shown(w))
		}
	}
	return w, ok
}

// told is a configuration with that output, as pairs of a process and a number.
func told(w impl.World, pairs ...int) impl.World {
	for pair := range slices.Chunk(pairs, 2) {
		w.Said = append(w.Said, impl.Say{Who: pair[0], N: pair[1]})
	}
	return w
}

func withCells(w impl.World, cells ...int) impl.World {
	w.Cells = cells
	return w
}

func TestRunOfNoOrder(t *testing.T) {
	for _, order := range [][]int{nil, {}} {
		checkRun(t, [][]impl.Stmt{nil}, order, fresh(runs()))
		checkRun(t, program(t, "in 0 [ say 0 ]"), order, fresh(runs(in(0, say(0)))))
		p := program(t, "num 0 1 say 0 in 0 [ say 0 ] say 0", "say 1 yield", "num 0 3 say 0 while 0 [ in 1 [ ] ]")
		want := fresh(regs(1, 0, 0, in(0, say(0)), say(0)), runs(), regs(3, 0, 0, in(1), while(0, in(1))))
		checkRun(t, p, order, told(want, 0, 1, 1, 0, 2, 3))
	}
}

// The document's example: the order decides which result it is.
func TestRunOfACompleteOrder(t *testing.T) {
	p := program(t, "num 0 1 say 0 in 0 [ load 0 0 add 0 0 store 0 0 ]", "num 0 5 in 0 [ store 0 0 ] say 0")
	checkRun(t, p, ints(1, 0), withCells(told(fresh(regs(10, 0, 0), regs(5, 0, 0)), 0, 1, 1, 5), 10, 0, 0))
	checkRun(t, p, ints(0, 1), withCells(told(fresh(regs(0, 0, 0), regs(5, 0, 0)), 0, 1, 1, 5), 5, 0, 0))
	three := program(t, "in 0 [ say 0 ] in 1 [ say 0 ]", "in 1 [ say 0 ]", "in 0 [ say 0 say 0 ]")
	checkRun(t, three, ints(2, 0, 1, 0), told(fresh(runs(), runs(), runs()), 2, 0, 2, 0, 0, 0, 1, 0, 0, 0))
	checkRun(t, three, ints(0, 0, 1, 2), told(fresh(runs(), runs(), runs()), 0, 0, 0, 0, 1, 0, 2, 0, 2, 0))
}

func TestRunOfAnOrderThatEndsEarly(t *testing.T) {
	p := program(t, "in 0 [ say 0 ] num 0 7 say 0 in 1 [ ] say 0", "num 0 2 in 0 [ ] say 0", "num 0 3 say 0")
	first, second, third := runs(in(0, say(0)), num(0, 7), say(0), in(1), say(0)), regs(2, 0, 0, in(0), say(0)), regs(3, 0, 0)
	checkRun(t, p, nil, told(fresh(first, second, third), 2, 3))
	between := regs(7, 0, 0, in(1), say(0))
	checkRun(t, p, ints(0), told(fresh(between, second, third), 0, 0, 0, 7, 2, 3))
	checkRun(t, p, ints(0, 1), told(fresh(between, regs(2, 0, 0), third), 0, 0, 0, 7, 1, 2, 2, 3))
	checkRun(t, p, ints(1, 0), told(fresh(between, regs(2, 0, 0), third), 0, 0, 0, 7, 1, 2, 2, 3))
	checkRun(t, p, ints(0, 0), told(fresh(regs(7, 0, 0), second, third), 0, 0, 0, 7, 0, 7, 2, 3))
}

func TestRunOfNoProcess(t *testing.T) {
	const room = "in 0 [ ] in 0 [ ]"
	for many := 1; many <= 3; many++ {
		p := program(t, slices.Repeat([]string{room}, many)...)
		for _, who := range []int{-1, many, many + 1, -many - 1, 200, math.MinInt, math.MaxInt, 1 << 32, -1 << 32} {
			for _, order := range [][]int{{who}, {who, 0}, {0, who}, {0, who, 0}, {0, 0, who}} {
				checkNoRun(t, p, order)
			}
		}
		checkRun(t, p, ints(0, 0), fresh(append([]impl.Proc{runs()}, slices.Repeat([]impl.Proc{runs(in(0), in(0))}, many-1)...)...))
	}
}

func TestRunWithoutAFurtherEntry(t *testing.T) {
	for text, entries := range map[string]int{
		"-": 0, "say 0": 0, "yield num 0 1 say 0": 0, "in 0 [ ]": 1, "in 0 [ ] say 0": 1, "in 0 [ ] say 0 in 1 [ say 0 ]": 2,
		"if 0 [ in 0 [ ] ] [ ]": 0, "if 0 [ ] [ in 0 [ ] ]": 1, "while 0 [ in 0 [ ] ]": 0, "num 0 1 while 0 [ in 0 [ num 0 0 ] ] say 0": 1,
	} {
		for _, others := range [][]string{nil, {"in 0 [ ]"}, {"-", "in 1 [ ]"}} {
			p := program(t, append([]string{text}, others...)...)
			for many := range 5 {
				order := fine(many)
				if many > entries {
					checkNoRun(t, p, order)
				} else if _, ok := checkRunModel(t, p, order); !ok {
					t.Errorf("%q has no run of %v", text, order)
				}
			}
			if len(others) > 0 {
				checkNoRun(t, p, append(fine(entries+1), len(others)))
				checkNoRun(t, p, append(ints(len(others)), fine(entries+1)...))
			}
		}
	}
}

// Who waits has no entry before somebody signals.
func TestRunOfOneThatWaits(t *testing.T) {
	waiting := func(p impl.Proc, sign int, others ...impl.Proc) impl.World {
		w := fresh(append([]impl.Proc{p}, others...)...)
		w.Signs[sign] = ints(0)
		return w
	}
	p := program(t, "in 0 [ wait 1 say 0 ] say 0", "in 0 [ signal 0 ]", "num 0 4 in 0 [ signal 1 say 0 ]")
	left := inside(0, 1, 1, say(0), leave(0), say(0))
	checkRun(t, p, ints(0), waiting(left, 1, runs(in(0, signal(0))), regs(4, 0, 0, in(0, signal(1), say(0)))))
	checkNoRun(t, p, ints(0, 0))
	checkNoRun(t, p, ints(0, 0, 2))
	// Another signal is of no use.
	checkRun(t, p, ints(0, 1), waiting(left, 1, runs(), regs(4, 0, 0, in(0, signal(1), say(0)))))
	checkNoRun(t, p, ints(0, 1, 0))
	// And neither is one that nobody waited for when it came.
	checkNoRun(t, p, ints(2, 0, 0))
	back := inside(0, 2, 0, say(0), leave(0), say(0))
	checkRun(t, p, ints(0, 2), told(fresh(back, runs(in(0, signal(0))), regs(4, 0, 0)), 2, 4))
	checkRun(t, p, ints(0, 2, 0), told(fresh(runs(), runs(in(0, signal(0))), regs(4, 0, 0)), 2, 4, 0, 0, 0, 0))
	checkRun(t, p, ints(0, 2, 1, 0), told(fresh(runs(), runs(), regs(4, 0, 0)), 2, 4, 0, 0, 0, 0))
	checkNoRun(t, p, ints(0, 2, 0, 0))
}

// A section that ends with a StmtWait leaves the monitor to others, and the next one begins behind the step back.
func TestRunOfSectionsThatEndWithAWait(t *testing.T) {
	p := program(t, "in 1 [ say 0 wait 0 num 0 1 say 0 wait 0 num 0 2 say 0 ] say 0", "num 1 9 in 1 [ say 1 signal 0 ] in 1 [ signal 0 say 1 ]")
	others := regs(0, 9, 0)
	checkRun(t, p, ints(0, 1, 0, 1, 0), told(fresh(regs(2, 0, 0), others), 0, 0, 1, 9, 0, 1, 1, 9, 0, 2, 0, 2))
	// Both signals before the first step back: the second one finds nobody.
	back := impl.Proc{Regs: ints(0, 0, 0), Todo: list(num(0, 1), say(0), wait(0), num(0, 2), say(0), leave(1), say(0)), Mode: 2, Room: 1}
	checkRun(t, p, ints(0, 1, 1), told(fresh(back, others), 0, 0, 1, 9, 1, 9))
	again := impl.Proc{Regs: ints(1, 0, 0), Todo: list(num(0, 2), say(0), leave(1), say(0)), Mode: 1, Room: 1}
	want := told(fresh(again, others), 0, 0, 1, 9, 1, 9, 0, 1)
	want.Signs[0] = ints(0)
	checkRun(t, p, ints(0, 1, 1, 0), want)
	checkNoRun(t, p, ints(0, 1, 1, 0, 0))
	// The step back does not end a section, though a StmtLeave or another StmtWait stands behind it.
	short := program(t, "in 0 [ wait 0 wait 1 ] say 0", "num 0 6 in 0 [ signal 0 ] in 0 [ signal 1 ]")
	signaler := regs(6, 0, 0, in(0, signal(1)))
	want = fresh(inside(0, 1, 1, leave(0), say(0)), signaler)
	want.Signs[1] = ints(0)
	checkRun(t, short, ints(0, 1, 0), want)
	checkRun(t, short, ints(0, 1, 0, 1), fresh(inside(0, 2, 0, leave(0), say(0)), regs(6, 0, 0)))
	checkRun(t, short, ints(0, 1, 0, 1, 0), told(fresh(runs(), regs(6, 0, 0)), 0, 0))
	// Waits within a body end a section, too, and a while goes on behind them.
	loop := program(t, "num 0 1 in 0 [ while 0 [ wait 1 load 0 0 ] say 0 ]", "in 0 [ num 0 5 signal 1 ] in 0 [ store 0 1 signal 1 ]")
	checkRun(t, loop, ints(0, 1, 0), told(fresh(regs(0, 0, 0), regs(5, 0, 0, in(0, store(0, 1), signal(1)))), 0, 0))
	checkNoRun(t, loop, ints(0, 1, 0, 0))
}

// Several wait for one signal: who came first comes back first, whatever the numbers.
func TestRunSignalsTheFirst(t *testing.T) {
	p := program(t, "in 0 [ wait 0 say 0 ]", "in 0 [ wait 0 say 0 ]", "in 0 [ signal 0 ] in 0 [ signal 0 ]")
	for first := range 2 {
		second := 1 - first
		order := ints(first, second, 2)
		checkNoRun(t, p, append(order, second))
		checkRun(t, p, append(order, first, 2, second), told(fresh(runs(), runs(), runs()), first, 0, second, 0))
		checkRun(t, p, append(order, 2, second, first), told(fresh(runs(), runs(), runs()), second, 0, first, 0))
	}
}

// What a process does outside of all monitors belongs to its next section, or to the end.
func TestRunOfWhatIsOutside(t *testing.T) {
	p := program(t, "load 0 0 in 0 [ say 0 ] num 0 8 store 0 0", "num 0 5 store 0 0 in 0 [ ]", "load 0 0 say 0 in 0 [ ] load 0 0 say 0")
	ends := withCells(fresh(regs(8, 0, 0), regs(5, 0, 0), regs(8, 0, 0)), 8, 0, 0)
	checkRun(t, p, ints(0, 1, 2), told(ends, 0, 0, 2, 5, 2, 8))
	checkRun(t, p, ints(1, 0, 2), told(ends, 0, 5, 2, 5, 2, 8))
	checkRun(t, p, ints(2, 0, 1), told(ends, 2, 0, 0, 0, 2, 8))
	// The final phase is that of process 0 first, which does not see what process 1 stores then.
	checkRun(t, p, nil, withCells(told(fresh(regs(0, 0, 0, in(0, say(0)), num(0, 8), store(0, 0)), regs(5, 0, 0, in(0)), regs(5, 0, 0, in(0), load(0, 0), say(0))), 2, 5), 5, 0, 0))
}

func TestRunEndsInAscendingOrder(t *testing.T) {
	p := program(t, "num 0 1 store 0 0 say 0 say 0", "load 0 0 say 0 num 0 2 store 0 0", "load 0 0 say 0 say 0")
	checkRun(t, p, nil, withCells(told(fresh(regs(1, 0, 0), regs(2, 0, 0), regs(2, 0, 0)), 0, 1, 0, 1, 1, 1, 2, 2, 2, 2), 2, 0, 0))
	// One is left in front of an entry, one waits, and one comes to its end.
	p = program(t, "num 0 1 say 0 in 0 [ say 0 ]", "in 1 [ wait 1 ] say 0", "num 0 3 say 0 yield")
	want := told(fresh(regs(1, 0, 0, in(0, say(0))), inside(1, 1, 1, leave(1), say(0)), regs(3, 0, 0)), 0, 1, 2, 3)
	want.Signs[1] = ints(1)
	checkRun(t, p, ints(1), want)
}

// Who is signaled in the final phase is back, which is an entry, so that it goes no further.
func TestRunSignalsInTheEnd(t *testing.T) {
	p := program(t, "in 0 [ wait 0 say 0 ]", "signal 0 say 0")
	checkRun(t, p, ints(0), told(fresh(inside(0, 2, 0, say(0), leave(0)), runs()), 1, 0))
	checkNoRun(t, p, ints(0, 1))
	p = program(t, "signal 0 say 0", "in 0 [ wait 0 say 0 ]", "in 0 [ ]")
	checkRun(t, p, ints(1, 2), told(fresh(runs(), inside(0, 2, 0, say(0), leave(0)), runs()), 0, 0))
	checkNoRun(t, p, ints(1, 1))
	// A section brings the signal that stands in front of it, so that one may come back behind it.
	p = program(t, "signal 0 in 0 [ ]", "in 0 [ wait 0 say 0 ]")
	checkRun(t, p, ints(1, 0, 1), told(fresh(runs(), runs()), 1, 0))
	checkNoRun(t, p, ints(0, 1, 1))
}

// A monitor that nobody leaves, and a process that never gets to one.
func TestRunThatGoesOnForEver(t *testing.T) {
	p := program(t, "num 0 1 in 0 [ while 0 [ ] ] say 0", "in 0 [ ]", "in 1 [ ] say 0")
	checkNoRun(t, p, ints(0))
	checkNoRun(t, p, ints(0, 1))
	checkNoRun(t, p, ints(1, 2, 0))
	checkRun(t, p, ints(2, 1), told(fresh(regs(1, 0, 0, in(0, while(0)), say(0)), runs(), runs()), 2, 0))
	p = program(t, "num 0 1 while 0 [ yield ] in 0 [ ]", "in 0 [ ]")
	for _, order := range [][]int{nil, {0}, {1}, {1, 0}, {0, 1}} {
		checkNoRun(t, p, order)
	}
	p = program(t, "in 0 [ ]", "in 0 [ ] num 0 1 while 0 [ ]")
	for _, order := range [][]int{{1}, {0, 1}, {1, 0}, {1, 1}} {
		checkNoRun(t, p, order)
	}
	checkRun(t, p, ints(0), fresh(runs(), runs(in(0), num(0, 1), while(0))))
	// One that gets to a monitor again and again comes to an end each time.
	p = program(t, "num 0 1 while 0 [ in 0 [ say 0 ] ]", "num 0 1 while 0 [ in 1 [ wait 0 ] ]")
	rest := while(0, in(0, say(0)))
	other := while(0, in(1, wait(0)))
	for many := range 5 {
		want := fresh(regs(1, 0, 0, in(0, say(0)), rest), regs(1, 0, 0, in(1, wait(0)), other))
		checkRun(t, p, fine(many), told(want, slices.Repeat(ints(0, 1), many)...))
	}
	checkNoRun(t, p, ints(1, 1))
}

// countdown is a text that takes exactly so many steps, at least three, in no monitor, and leaves the registers 0 1 0.
func countdown(steps int) string {
	text := fmt.Sprintf("num 1 1 num 0 %d while 0 [ sub 0 1 ]", (steps-3)/2)
	if steps%2 == 0 {
		text += " yield"
	}
	return text
}

func TestCountdown(t *testing.T) {
	for steps := 3; steps <= 200; steps++ {
		w, codes := impl.MeanPlay(program(t, countdown(steps)), fine(200))
		if !slices.Equal(codes[:steps], fine(steps)) || slices.Contains(codes[steps:], 0) || shown(w) != shown(fresh(regs(0, 1, 0))) {
			t.Fatal(steps, codes)
		}
	}
}

// TestMostStepsOfASection has sections of that many steps in all; a section may have 200.
func TestMostStepsOfASection(t *testing.T) {
	for steps := 190; steps <= 210; steps++ {
		for _, c := range []struct {
			texts []string
			order []int
		}{
			{[]string{countdown(steps-2) + " in 0 [ ]"}, ints(0)},
			{[]string{countdown(steps-2) + " in 0 [ wait 0 say 0 ]"}, ints(0)},
			{[]string{"in 1 [ " + countdown(steps-2) + " ]"}, ints(0)},
			{[]string{"in 1 [ " + countdown(steps-2) + " wait 0 ]"}, ints(0)},
			{[]string{countdown(100) + " in 1 [ " + countdown(steps-102) + " ]"}, ints(0)},
			{[]string{"-", countdown(77) + " in 1 [ " + countdown(steps-79) + " ]"}, ints(1)},
			{[]string{"in 0 [ wait 0 " + countdown(steps-2) + " ]", "in 0 [ signal 0 ]"}, ints(0, 1, 0)},
			{[]string{"in 0 [ wait 0 " + countdown(steps-2) + " wait 0 ]", "in 0 [ signal 0 ]"}, ints(0, 1, 0)},
			{[]string{"in 0 [ ] " + countdown(steps-2) + " in 1 [ ]"}, ints(0, 0)},
			{[]string{"in 0 [ ]", countdown(steps-2) + " in 1 [ ]", "in 0 [ ]"}, ints(0, 1, 2)},
			// Each section has its own limit.
			{[]string{countdown(198) + " in 0 [ ] " + countdown(steps-2) + " in 0 [ ]"}, ints(0, 0)},
			{[]string{countdown(steps-2) + " in 0 [ ] " + countdown(198) + " in 0 [ ]"}, ints(0, 0)},
			{[]string{countdown(198) + " in 0 [ ]", countdown(198) + " in 0 [ ]", countdown(steps-2) + " in 0 [ ]"}, ints(1, 0, 2)},
			// And so has what is left behind the last one.
			{[]string{countdown(steps-2) + " in 0 [ ] " + countdown(199)}, ints(0)},
		} {
			p := program(t, c.texts...)
			if _, ok := checkRunModel(t, p, c.order); ok != (steps <= 200) {
				t.Errorf("%q: there is a run of %v: %v", c.texts, c.order, ok)
			}
			if steps > 200 {
				checkNoRun(t, p, c.order)
			}
		}
	}
}

// TestMostStepsOfTheEnd has a process that takes so many steps in the final phase; it may take 199.
func TestMostStepsOfTheEnd(t *testing.T) {
	for steps := 190; steps <= 210; steps++ {
		for _, c := range []struct {
			texts []string
			order []int
		}{
			{[]string{countdown(steps)}, nil},
			{[]string{countdown(steps) + " in 0 [ ]"}, nil},
			{[]string{"in 0 [ ] " + countdown(steps)}, ints(0)},
			{[]string{"in 0 [ ] " + countdown(steps) + " in 0 [ say 0 ]"}, ints(0)},
			{[]string{"in 0 [ ]", countdown(steps)}, ints(0)},
			{[]string{"in 0 [ wait 0 ]", "signal 0 " + countdown(steps-1)}, ints(0)},
			// Each process has its own limit.
			{[]string{countdown(199), countdown(199), countdown(steps)}, nil},
			{[]string{countdown(steps), countdown(199), countdown(199)}, nil},
			{[]string{countdown(199), countdown(steps) + " in 0 [ ]", countdown(199)}, nil},
			{[]string{countdown(198) + " in 0 [ ] " + countdown(steps)}, ints(0)},
		} {
			p := program(t, c.texts...)
			if _, ok := checkRunModel(t, p, c.order); ok != (steps < 200) {
				t.Errorf("%q: there is a run of %v: %v", c.texts, c.order, ok)
			}
			if steps >= 200 {
				checkNoRun(t, p, c.order)
			}
		}
	}
}

func TestMostElementsOfAnOrder(t *testing.T) {
	p := program(t, "num 0 1 while 0 [ in 0 [ ] ]", "num 0 1 while 0 [ in 0 [ ] ]", "say 0")
	left := regs(1, 0, 0, in(0), while(0, in(0)))
	want := told(fresh(left, left, runs()), 2, 0)
	mixed := slices.Repeat(ints(0, 1, 1), 67)
	for _, many := range []int{0, 1, 199, 200} {
		checkRun(t, p, fine(many), want)
		checkRun(t, p, slices.Repeat(ints(1), many), want)
		checkRun(t, p, mixed[:many], want)
	}
	for _, order := range [][]int{fine(201), mixed, fine(202), fine(400), fine(5000), slices.Repeat(ints(-1), 201)} {
		checkNoRun(t, p, order)
	}
	checkNoRun(t, p, append(fine(199), 2))
	checkNoRun(t, p, append(fine(199), 3))
}

func TestRunOfInvalidPrograms(t *testing.T) {
	for name, p := range invalidPrograms() {
		for _, order := range [][]int{nil, {}, {0}, {0, 1}, {-1}, fine(200), fine(201)} {
			checkNoRun(t, p, order)
		}
		if t.Failed() {
			t.Fatal(name)
		}
	}
}

// TestAllShortOrders tries every order of up to six elements against the model.
func TestAllShortOrders(t *testing.T) {
	seen := map[string]int{}
	for _, texts := range slices.Concat(lively, locked) {
		p := program(t, texts...)
		for many := range 7 {
			for order := range sequences(many, len(p)) {
				_, ok := checkRunModel(t, p, order)
				if t.Failed() {
					t.Fatalf("%q, %v", texts, order)
				}
				seen[fmt.Sprint(many, ok)]++
			}
		}
	}
	if seen["6 true"] == 0 || seen["2 false"] == 0 {
		t.Error(seen)
	}
}

// checkLike makes sure that the order of the two does not matter.
func checkLike(t *testing.T, a, b impl.World, want bool) {
	t.Helper()
	if impl.WholeLike(a, b) != want || impl.WholeLike(b, a) != want {
		t.Errorf("alike: %v\n%s\n%s", !want, shown(a), shown(b))
	}
}

// says is a configuration of so many processes with that output.
func says(many int, pairs ...int) impl.World {
	return told(fresh(slices.Repeat([]impl.Proc{runs()}, many)...), pairs...)
}

func TestWholeLikeOfWhatIsSaid(t *testing.T) {
	for _, c := range []struct {
		name string
		a, b impl.World
		want bool
	}{
		{"nothing", says(2), says(2), true},
		{"the same", says(2, 0, 5, 1, 6), says(2, 0, 5, 1, 6), true},
		{"in another order", says(2, 0, 5, 1, 6), says(2, 1, 6, 0, 5), true},
		{"of three in another order", says(3, 0, 1, 1, 2, 2, 3, 0, 4, 1, 5), says(3, 2, 3, 1, 2, 1, 5, 0, 1, 0, 4), true},
		{"another number", says(2, 0, 5, 1, 6), says(2, 0, 5, 1, 7), false},
		{"another number first", says(2, 0, 5, 0, 6), says(2, 0, 4, 0, 6), false},
		{"another process", says(2, 0, 5), says(2, 1, 5), false},
		{"changed processes", says(2, 0, 5, 1, 6), says(2, 1, 5, 0, 6), false},
		{"one number more", says(2, 0, 5, 1, 6), says(2, 0, 5, 1, 6, 0, 5), false},
		{"something and nothing", says(1, 0, 0), says(1), false},
		{"the order of one process", says(2, 0, 5, 0, 6), says(2, 0, 6, 0, 5), false},
		{"the order of the last process", says(3, 2, 5, 0, 1, 2, 6), says(3, 2, 6, 0, 1, 2, 5), false},
		{"no process", says(2, 2, 5, -1, 6, 0, 7), says(2, 0, 7), true},
		{"no process, another number", says(2, 2, 5, 0, 7), says(2, 0, 7, 2, 6), true},
		{"the last process of three", says(3, 2, 5), says(3), false},
		{"no processes at all", says(0, 0, 5), says(0, 1, 6), true},
		{"more processes than a program has", says(9, 8, 5), says(9, 8, 6), false},
		{"one process of nine", says(9, 9, 5, 3, 1), says(9, 3, 1, 9, 6), true},
		{"numbers that are none", says(1, 0, 5000), says(1, 0, 5000, -5, 0), true},
		{"other numbers that are none", says(1, 0, math.MaxInt), says(1, 0, math.MinInt), false},
	} {
		checkLike(t, c.a, c.b, c.want)
		if t.Failed() {
			t.Fatal(c.name)
		}
	}
}

func TestWholeLikeOfCellsAndProcesses(t *testing.T) {
	cells := [][]int{nil, {0}, {0, 0, 0}, {1, 0, 0}, {0, 1, 0}, {0, 0, 1}, {0, 0, -1}, {0, 0, 0, 0}, {1, 2, 3}, {3, 2, 1}, {1, 2}, {1000, 0, 0}}
	for i, one := range cells {
		for j, other := range cells {
			checkLike(t, withCells(says(2, 1, 5), one...), withCells(says(2, 1, 5), other...), i == j)
		}
	}
	for many := range 6 {
		for other := range 6 {
			checkLike(t, says(many), says(other), many == other)
			checkLike(t, impl.World{Procs: make([]impl.Proc, many)}, impl.World{Procs: make([]impl.Proc, other)}, many == other)
		}
	}
	checkLike(t, impl.World{}, impl.World{Procs: []impl.Proc{}, Cells: ints(), Said: []impl.Say{}}, true)
	checkLike(t, impl.World{}, fresh(), false)
}

// Nothing else counts.
func TestWholeLikeOfOtherFields(t *testing.T) {
	p := program(t, "num 0 1 say 0 in 0 [ wait 1 ]", "say 0 signal 1 in 1 [ yield ]")
	play := func(picks ...int) impl.World {
		w, _ := impl.MeanPlay(p, picks)
		return w
	}
	checkLike(t, play(0, 0, 1), play(1, 0, 0, 0, 0), true)
	checkLike(t, play(0, 0, 0, 0, 1), play(1, 0, 0, 0, 0, 1), true)
	checkLike(t, play(0, 0, 1, 1, 1), play(0, 0, 1), true)
	checkLike(t, play(0, 0, 1), play(0, 1), false)
	for i, change := range []func(w *impl.World){
		func(w *impl.World) { w.Procs[0].Regs[0]++ },
		func(w *impl.World) { w.Procs[1].Regs = nil },
		func(w *impl.World) { w.Procs[0].Todo = nil },
		func(w *impl.World) { w.Procs[0].Todo = ring(0) },
		func(w *impl.World) { w.Procs[1].Todo = ring(0, 1) },
		func(w *impl.World) { w.Procs[0].Mode = 1 },
		func(w *impl.World) { w.Procs[0].On = 1 },
		func(w *impl.World) { w.Procs[2].Room = 1 },
		func(w *impl.World) { w.Procs[0], w.Procs[1] = w.Procs[1], w.Procs[0] },
		func(w *impl.World) { w.Rooms[0] = 0 },
		func(w *impl.World) { w.Rooms = nil },
		func(w *impl.World) { w.Signs[0][0] = 1 },
		func(w *impl.World) { w.Signs = w.Signs[:1] },
		func(w *impl.World) { w.Signs = nil },
	} {
		if !impl.WholeLike(many(), with(many(), change)) || !impl.WholeLike(with(many(), change), many()) {
			t.Errorf("change %d makes a difference", i)
		}
	}
}

func TestWholeLikeOfEveryField(t *testing.T) {
	for _, one := range changes {
		for _, other := range changes {
			a, b := with(many(), one), with(many(), other)
			checkLike(t, a, b, looks(a) == looks(b))
		}
	}
}

// locked are programs all of whose processes come to an end, and whose cells and signals are used in their monitors
// only: cell 0, cell 2 and signal 0 in monitor 0, and cell 1 and signal 1 in monitor 1.
var locked = [][]string{
	{"num 0 5 say 0 in 0 [ load 1 0 add 1 0 store 0 1 say 1 ] say 1 in 1 [ load 2 1 store 1 0 ] say 2"},
	{"in 0 [ ]", "-"},
	{"num 0 1 say 0 in 0 [ load 0 0 add 0 0 store 0 0 ]", "num 0 5 in 0 [ store 0 0 ] say 0"},
	{"num 1 1 in 0 [ load 0 0 add 0 1 store 0 0 ] say 0", "num 1 2 in 0 [ load 0 0 mul 0 1 store 0 0 ] say 0", "num 1 3 in 0 [ load 0 0 add 0 1 store 0 0 ] say 0"},
	{"num 0 3 num 1 1 while 0 [ in 0 [ load 2 2 add 2 1 store 2 2 ] say 2 sub 0 1 ]", "num 0 4 num 1 2 while 0 [ in 0 [ load 2 2 add 2 1 store 2 2 ] say 2 sub 0 1 ]"},
	// A number is handed on as soon as it is there.
	{"say 0 in 0 [ load 1 0 same 1 2 while 1 [ wait 0 load 1 0 same 1 2 ] load 1 0 say 1 ] say 1", "num 0 7 say 0 yield in 0 [ store 0 0 signal 0 ] say 0"},
	{"in 0 [ wait 0 say 0 ] say 0", "num 0 7 say 0 in 0 [ say 0 ] say 0 in 0 [ signal 0 say 0 ] num 0 8 say 0", "num 0 1 in 1 [ load 1 1 add 1 0 store 1 1 ] say 1"},
	{"num 0 1 in 1 [ wait 1 load 0 1 say 0 ] say 0", "num 0 2 in 1 [ wait 1 load 0 1 say 0 ] say 0", "num 0 3 in 1 [ store 1 0 signal 1 ] say 0 num 0 4 in 1 [ store 1 0 signal 1 ]"},
	{"in 0 [ signal 0 wait 0 num 0 1 store 0 0 signal 0 ] say 0", "in 0 [ signal 0 wait 0 load 0 0 signal 0 ] say 0", "yield in 0 [ signal 0 ] num 0 5 say 0"},
	{"num 0 1 in 0 [ store 0 0 yield store 2 0 ] in 1 [ load 1 1 yield say 1 ]", "num 0 2 in 1 [ yield store 1 0 ] in 0 [ load 1 0 yield load 2 2 say 1 say 2 ]", "in 0 [ load 0 0 yield load 1 2 same 0 1 say 0 ] say 1"},
	{"in 0 [ wait 0 ]", "num 0 2 say 0 in 0 [ num 0 3 store 0 0 ] say 0", "yield say 0 in 1 [ wait 1 ] say 0"},
}

var lockedOwner = ints(0, 1, 0, 0, 1)

// checkWhole holds promise 7 for picks after which nobody can go on.
func checkWhole(t *testing.T, p [][]impl.Stmt, picks []int) {
	t.Helper()
	w, _ := impl.MeanPlay(p, picks)
	order := impl.WholeOrder(p, picks)
	if !slices.Equal(order, modelOrder(p, picks)) {
		t.Errorf("the order of %v is %v", picks, order)
	}
	alone, ok := checkRunModel(t, p, order)
	if !ok {
		t.Errorf("there is no run of %v, the order of %v", order, picks)
	}
	checkLike(t, w, alone, true)
	if looks(w) != looks(alone) {
		t.Errorf("after %v, there is %s, and after the run of %v %s", picks, looks(w), order, looks(alone))
	}
	// Only in which order different processes wrote may differ.
	w.Said, alone.Said = nil, nil
	checkWorld(t, alone, w)
}

// checkWholeCpu does so for an execution that has come to its end, and returns the code.
func checkWholeCpu(t *testing.T, p [][]impl.Stmt, gaps []int, seen map[string]int) int {
	t.Helper()
	c, how := impl.CpuRun(p, gaps, 90)
	seen[[]string{"done", "fuel", "stuck"}[how]]++
	if how == impl.CpuFuel {
		checkRunModel(t, p, impl.WholeOrder(p, c.Picks))
		return how
	}
	checkWhole(t, p, c.Picks)
	countCuts(p, c.Picks, seen)
	alone, _ := impl.WholeRun(p, impl.WholeOrder(p, c.Picks))
	if looks(alone) != looks(impl.World{Procs: alone.Procs, Cells: c.Cells, Said: c.Said}) {
		t.Errorf("gaps %v: the processor has %v and %v, the run %s", gaps, c.Cells, c.Said, looks(alone))
	}
	return how
}

// countCuts counts what the promise is about: steps while others are in a monitor, and who says, waits and comes back.
func countCuts(p [][]impl.Stmt, picks []int, seen map[string]int) {
	m := newModel(p)
	for _, who := range picks {
		proc := &m.procs[who]
		for other := range p {
			if other != who && m.procs[other].inside {
				seen["another is inside"]++
				seen["both are inside"] += oneIf(proc.inside)
			}
		}
		seen["back"] += oneIf(proc.back)
		if kind := m.kind(who); kind == impl.StmtSay || kind == impl.StmtWait {
			seen[fmt.Sprint("kind ", kind, " inside ", proc.inside)]++
		}
		m.step(who)
	}
}

func checkSeen(t *testing.T, seen map[string]int) {
	t.Helper()
	checkHappened(t, seen, "done", "stuck", "another is inside", "both are inside", "back", "kind 5 inside true", "kind 5 inside false", "kind 9 inside true")
}

// TestWholeUnderSeveralGaps tries each gap alone, and every three gaps of up to five instructions.
func TestWholeUnderSeveralGaps(t *testing.T) {
	all := [][]int{{12, 1}, {1, 12, 3}, {7, 2, 2, 9, 1}}
	for gap := 1; gap <= 12; gap++ {
		all = append(all, ints(gap))
	}
	for i := range 125 {
		all = append(all, ints(1+i%5, 1+i/5%5, 1+i/25))
	}
	seen := map[string]int{}
	for _, texts := range locked {
		p := program(t, texts...)
		if !impl.WholeOk(p, lockedOwner) {
			t.Errorf("%q is not whole", texts)
		}
		for _, gaps := range all {
			if checkWholeCpu(t, p, gaps, seen) == impl.CpuFuel {
				t.Errorf("%q does not come to an end", texts)
			}
			if t.Failed() {
				t.Fatalf("%q, gaps %v", texts, gaps)
			}
		}
	}
	checkSeen(t, seen)
}

// TestWholeGivesEachCount has the timer cut in everywhere, and nothing is lost.
func TestWholeGivesEachCount(t *testing.T) {
	const twice = "num 1 1 in 0 [ load 0 0 add 0 1 store 0 0 ] in 0 [ load 0 0 add 0 1 store 0 0 ]"
	p := program(t, twice, twice, twice)
	for gap := 1; gap <= 12; gap++ {
		c, how := impl.CpuRun(p, ints(gap), 90)
		alone, ok := impl.WholeRun(p, impl.WholeOrder(p, c.Picks))
		if how != impl.CpuDone || !ok || !slices.Equal(c.Cells, ints(6, 0, 0)) || !slices.Equal(alone.Cells, ints(6, 0, 0)) {
			t.Errorf("gap %d: %d, %v, %v", gap, how, c.Cells, alone.Cells)
		}
	}
	for _, order := range [][]int{{0, 0, 1, 1, 2, 2}, {2, 1, 0, 0, 1, 2}, {0, 1, 2, 0, 1, 2}} {
		if alone, ok := impl.WholeRun(p, order); !ok || !slices.Equal(alone.Cells, ints(6, 0, 0)) {
			t.Errorf("%v: %v", order, alone.Cells)
		}
	}
}

// Where no ownership is right, the result may be another one.
func TestNotWhole(t *testing.T) {
	const bare = "num 1 1 load 0 0 add 0 1 store 0 0"
	for _, c := range []struct {
		texts []string
		gaps  []int
	}{
		{[]string{bare, bare}, ints(3)},
		{[]string{"num 0 5 in 0 [ store 0 0 yield num 0 6 store 0 0 ]", "in 1 [ load 0 0 say 0 ]"}, ints(12)},
		{[]string{"num 0 5 in 0 [ store 0 0 yield num 0 6 store 0 0 ]", "load 0 0 say 0 in 0 [ ]"}, ints(12)},
	} {
		p := program(t, c.texts...)
		for _, owner := range allOwners() {
			if impl.WholeOk(p, owner) {
				t.Errorf("%q with the owners %v", c.texts, owner)
			}
		}
		cpu, how := impl.CpuRun(p, c.gaps, 90)
		w, _ := impl.MeanPlay(p, cpu.Picks)
		alone, ok := checkRunModel(t, p, impl.WholeOrder(p, cpu.Picks))
		if how != impl.CpuDone || !ok {
			t.Errorf("%q: %d, %v", c.texts, how, ok)
		}
		checkLike(t, w, alone, false)
	}
}

func (m maker) owner() []int { return ints(m.IntN(2), m.IntN(2), m.IntN(2), m.IntN(2), m.IntN(2)) }

// guard makes statements of a monitor use only what it owns.
func (m maker) guard(body []impl.Stmt, owner []int, room int) []impl.Stmt {
	out := slices.Clone(body)
	owned := func(from, to int) (int, bool) {
		var all []int
		for what := from; what < to; what++ {
			if owner[what] == room {
				all = append(all, what-from)
			}
		}
		if len(all) == 0 {
			return 0, false
		}
		return all[m.IntN(len(all))], true
	}
	for i, s := range out {
		var is bool
		switch s.Kind {
		case impl.StmtLoad:
			out[i].B, is = owned(0, 3)
		case impl.StmtStore:
			out[i].A, is = owned(0, 3)
		case impl.StmtWait, impl.StmtSignal:
			out[i].A, is = owned(3, 5)
		default:
			out[i].Body, out[i].Else, is = m.guard(s.Body, owner, room), m.guard(s.Else, owner, room), true
		}
		if !is {
			out[i] = say(m.IntN(3))
		}
	}
	return out
}

// guarded makes a program that uses cells and signals only inside of their owners, and says something between.
func (m maker) guarded(owner []int) [][]impl.Stmt {
	var p [][]impl.Stmt
	for range 1 + m.IntN(3) {
		process := list(num(m.IntN(3), m.IntN(5)))
		for range 2 {
			room, left := m.IntN(2), 4
			part := in(room, m.guard(m.stmts(&left, 2, room), owner, room)...)
			switch m.IntN(4) {
			case 0:
				part = say(m.IntN(3))
			case 1:
				process = append(process, say(m.IntN(3)))
			}
			process = append(process, part)
		}
		p = append(p, process)
	}
	return p
}

func TestWholeOfMadePrograms(t *testing.T) {
	m := maker{rand.New(rand.NewPCG(6, 14))}
	seen := map[string]int{}
	for range 3000 {
		owner := m.owner()
		p := m.guarded(owner)
		if !impl.WholeOk(p, owner) {
			t.Errorf("not whole with the owners %v", owner)
		}
		for range 4 {
			gaps := make([]int, 1+m.IntN(5))
			for i := range gaps {
				gaps[i] = 1 + m.IntN(1+m.IntN(12))
			}
			checkWholeCpu(t, p, gaps, seen)
			if t.Failed() {
				t.Fatalf("%v, gaps %v", p, gaps)
			}
		}
	}
	checkSeen(t, seen)
	if seen["fuel"] == 0 {
		t.Error("all of them came to an end")
	}
}

// toTheEnd makes picks that are possible until nobody can go on, or until there are 200, and returns where they lead, too.
func (m maker) toTheEnd(p [][]impl.Stmt) ([]int, *model) {
	play := newModel(p)
	var picks []int
	for len(picks) < 200 {
		var can []int
		for who := range p {
			if play.code(who) == 0 {
				can = append(can, who)
			}
		}
		if len(can) == 0 {
			break
		}
		who := can[m.IntN(len(can))]
		play.step(who)
		picks = append(picks, who)
	}
	return picks, play
}

// TestWholeOfMadePlays has others cut in more often than the timer does.
func TestWholeOfMadePlays(t *testing.T) {
	m := maker{rand.New(rand.NewPCG(66, 14))}
	seen := map[string]int{}
	for range 6000 {
		p := m.guarded(m.owner())
		picks, play := m.toTheEnd(p)
		if len(impl.MeanCan(p, picks)) == 0 {
			checkWhole(t, p, picks)
			countCuts(p, picks, seen)
			seen["done"]++
			seen["stuck"] += oneIf(slices.ContainsFunc(play.procs, func(p modelProc) bool { return p.since > 0 }))
		}
		if t.Failed() {
			t.Fatalf("%v, %v", p, picks)
		}
	}
	checkSeen(t, seen)
}

// TestMadeOrders runs made programs, of which many are not whole, in made orders, of which some are the right ones.
func TestMadeOrders(t *testing.T) {
	m := maker{rand.New(rand.NewPCG(666, 14))}
	runs := map[bool]int{}
	for range 4000 {
		p := m.guarded(m.owner())
		if m.IntN(3) == 0 {
			p = [][]impl.Stmt{m.process(), m.process()}
		}
		picks := make([]int, m.IntN(201))
		for i := range picks {
			picks[i] = m.IntN(len(p)+2) - 1
		}
		order := impl.WholeOrder(p, picks)
		if !slices.Equal(order, modelOrder(p, picks)) {
			t.Errorf("the order of %v is %v", picks, order)
		}
		if len(order) > 0 && m.IntN(3) == 0 {
			order[m.IntN(len(order))] = m.IntN(len(p))
		}
		_, ok := checkRunModel(t, p, order)
		runs[ok && len(order) > 2]++
		if t.Failed() {
			t.Fatalf("%v, %v, %v", p, picks, order)
		}
	}
	if runs[true] == 0 || runs[false] == 0 {
		t.Error(runs)
	}
}

// tangled is a program, the last process of which has the memory of the one before it, picks, and an order after which
// every slice holds something.
func tangled(t *testing.T) ([][]impl.Stmt, []int, []int) {
	t.Helper()
	p := program(t,
		"num 0 1 say 0 in 0 [ signal 0 if 1 [ say 0 ] [ say 1 yield ] ] while 0 [ in 1 [ yield ] say 0 ]",
		"in 0 [ if 0 [ yield ] [ say 0 while 0 [ ] ] wait 0 ] while 0 [ say 0 ]")
	return append(p, p[1]), ints(1, 1, 1, 1, 1, 1, 2, 2, 0, 2, 0, 0, 2, 0, 2, 2, 0, 0, 0, 0, 0, 0, 0, 0, 1, 1), ints(1, 2, 0, 0, 1)
}

func TestWholeSharesNoMemory(t *testing.T) {
	p, picks, order := tangled(t)
	all := slices.Concat(stmtPlaces(p[0]), stmtPlaces(p[1]), places(p), places(picks), places(order))
	for steps := range len(picks) + 1 {
		all = slices.Concat(all, places(impl.WholeOrder(p, picks[:steps])), places(impl.WholeOrder(p, picks[:steps])))
	}
	for many := range len(order) + 1 {
		first, ok := impl.WholeRun(p, order[:many])
		second, _ := impl.WholeRun(p, order[:many])
		if !ok || len(first.Said) == 0 {
			t.Error(many, shown(first))
		}
		all = slices.Concat(all, worldPlaces(first), worldPlaces(second))
	}
	if len(impl.WholeOrder(p, picks)) < 3 {
		t.Error("few entries")
	}
	checkApart(t, all)
}

// A result stays as it is when an argument or another result is changed behind the call.
func TestWholeResultsStay(t *testing.T) {
	p, picks, order := tangled(t)
	first, _ := impl.WholeRun(p, order)
	second, _ := impl.WholeRun(p, order)
	entries := impl.WholeOrder(p, picks)
	want := shown(first) + fmt.Sprint(entries)
	for _, proc := range second.Procs {
		clear(proc.Regs)
		for _, one := range slicesOf(proc.Todo) {
			clear(one)
		}
	}
	for _, queue := range append(second.Signs, second.Cells, second.Rooms, impl.WholeOrder(p, picks)) {
		clear(queue[:cap(queue)])
	}
	clear(second.Procs)
	clear(second.Said)
	clearProgram(p)
	clear(picks)
	clear(order)
	if shown(first)+fmt.Sprint(entries) != want {
		t.Error("a result has changed")
	}
}

func TestWholeChangesNoArgument(t *testing.T) {
	p, picks, order := tangled(t)
	p = roomyProgram(p)
	picks, order = roomy(picks, 55), roomy(order, 56)
	owner := roomy(lockedOwner, 57)
	a, b := many(), many()
	a.Cells, a.Said = roomy(a.Cells, 58), roomy(a.Said, impl.Say{Who: 0, N: 59})
	look := func() string {
		all := fmt.Sprint(p[:cap(p)], picks[:cap(picks)], order[:cap(order)], owner[:cap(owner)], shown(a), shown(b), a.Cells[:cap(a.Cells)], a.Said[:cap(a.Said)])
		for _, process := range p {
			all += fmt.Sprint(slicesOf(process))
		}
		return all
	}
	before := look()
	impl.WholeOk(p, owner)
	impl.WholeOrder(p, picks)
	for many := range len(order) + 1 {
		impl.WholeRun(p, order[:many])
	}
	impl.WholeRun(p, ints(0, 0, 0, 0, 0, 0, 3))
	impl.WholeLike(a, b)
	impl.WholeLike(a, a)
	if after := look(); after != before {
		t.Errorf("%s has become %s", before, after)
	}
}
