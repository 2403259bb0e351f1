package tests

import (
	"fmt"
	"math"
	"math/rand/v2"
	"runtime/debug"
	"slices"
	"strings"
	"testing"

	"loop.example/changeringer/impl"
)

// These tests hold promise 9: whatever the timer does, the final configuration is one of those enumerated.

func TestStatesMost(t *testing.T) {
	if impl.StatesMost != 120 {
		t.Error(impl.StatesMost)
	}
}

// checkText also makes sure of what holds for each line.
func checkText(t *testing.T, w impl.World, want string) {
	t.Helper()
	got := impl.WorldText(w)
	if got != want {
		t.Errorf("the text is\n%q, not\n%q", got, want)
	}
	if again := impl.WorldText(w); again != got {
		t.Errorf("the text is %q, and then %q", got, again)
	}
	rest, ended := strings.CutSuffix(got, "\n")
	if !ended {
		t.Errorf("the last line of %q does not end", got)
	}
	for _, line := range strings.Split(rest, "\n") {
		if line == "" || strings.Join(strings.Fields(line), " ") != line {
			t.Errorf("there is the line %q", line)
		}
	}
}

const emptyRest = "cells 0 0 0\nrooms 0 0\nsign\nsign\n"

func TestWorldTextOfOpenings(t *testing.T) {
	for _, c := range []struct {
		texts []string
		want  string
	}{
		{[]string{"-"}, "proc 0 0 -1\nregs 0 0 0\n()\n"},
		{[]string{"yield yield"}, "proc 0 0 -1\nregs 0 0 0\n(11,0,0,0()()11,0,0,0()())\n"},
		{[]string{"num 1 -999 mul 1 2 load 2 1 store 0 2 say 1 signal 1 yield"}, "proc 0 0 -1\nregs 0 0 0\n(1,1,0,-999()()2,1,2,3()()3,2,1,0()()4,0,2,0()()5,1,0,0()()10,1,0,0()()11,0,0,0()())\n"},
		{[]string{"if 2 [ say 1 ] [ ]", "if 2 [ ] [ say 1 ]", "if 1 [ yield say 0 ] [ say 2 yield ]"}, "proc 0 0 -1\nregs 0 0 0\n(6,2,0,0(5,1,0,0()())())\nproc 0 0 -1\nregs 0 0 0\n(6,2,0,0()(5,1,0,0()()))\nproc 0 0 -1\nregs 0 0 0\n(6,1,0,0(11,0,0,0()()5,0,0,0()())(5,2,0,0()()11,0,0,0()()))\n"},
		{[]string{"while 1 [ while 2 [ ] ] in 1 [ wait 1 ]", "-"}, "proc 0 0 -1\nregs 0 0 0\n(7,1,0,0(7,2,0,0()())()8,1,0,0(9,1,0,0()())())\nproc 0 0 -1\nregs 0 0 0\n()\n"},
	} {
		checkText(t, impl.MeanOpen(program(t, c.texts...)), c.want+emptyRest)
	}
}

func TestWorldTextOfPlays(t *testing.T) {
	p := program(t, "num 0 -5 store 1 0 in 1 [ wait 0 ] say 0", "num 2 7 say 2 in 1 [ wait 0 ]", "in 0 [ signal 0 yield ]")
	w, _ := impl.MeanPlay(p, ints(0, 0, 0, 0, 1, 1, 1, 1, 2))
	waiting := "proc 1 0 1\nregs -5 0 0\n(12,1,0,0()()5,0,0,0()())\nproc 1 0 1\nregs 0 0 7\n(12,1,0,0()())\n"
	checkText(t, w, waiting+"proc 0 0 0\nregs 0 0 0\n(10,0,0,0()()11,0,0,0()()12,0,0,0()())\ncells 0 -5 0\nrooms 3 0\nsign 0 1\nsign\nsaid 1 7\n")
	w, _ = impl.MeanPlay(p, ints(0, 0, 0, 0, 1, 1, 1, 1, 2, 2))
	checkText(t, w, strings.Replace(waiting, "proc 1 0 1", "proc 2 0 1", 1)+"proc 0 0 0\nregs 0 0 0\n(11,0,0,0()()12,0,0,0()())\ncells 0 -5 0\nrooms 3 0\nsign 1\nsign\nsaid 1 7\n")
	w, _ = impl.MeanPlay(p, ints(0, 0, 0, 0, 1, 1, 1, 1, 2, 2, 0, 0, 0))
	checkText(t, w, "proc 0 0 -1\nregs -5 0 0\n()\nproc 1 0 1\nregs 0 0 7\n(12,1,0,0()())\nproc 0 0 0\nregs 0 0 0\n(11,0,0,0()()12,0,0,0()())\ncells 0 -5 0\nrooms 3 0\nsign 1\nsign\nsaid 1 7\nsaid 0 -5\n")
}

// No program reaches these.
func TestWorldTextOfOtherConfigurations(t *testing.T) {
	const least, most = "-9223372036854775808", "9223372036854775807"
	ends := impl.Stmt{Kind: math.MinInt, A: math.MaxInt, B: math.MinInt, N: math.MaxInt}
	for name, c := range map[string]struct {
		w    impl.World
		want string
	}{
		"zero":           {impl.World{}, "cells\nrooms\n"},
		"empty slices":   {impl.World{Procs: []impl.Proc{}, Cells: ints(), Rooms: []int{}, Signs: [][]int{}, Said: []impl.Say{}}, "cells\nrooms\n"},
		"a zero process": {impl.World{Procs: []impl.Proc{{}}}, "proc 0 0 0\nregs\n()\ncells\nrooms\n"},
		"modes":          {impl.World{Procs: []impl.Proc{{Mode: 3, On: 2, Room: 5}, {Mode: -1, On: -2, Room: -3, Regs: ints(-4)}}}, "proc 3 2 5\nregs\n()\nproc -1 -2 -3\nregs -4\n()\ncells\nrooms\n"},
		"cells alone":    {impl.World{Cells: ints(5)}, "cells 5\nrooms\n"},
		"rooms alone":    {impl.World{Rooms: ints(-1, 1000, 0, 7)}, "cells\nrooms -1 1000 0 7\n"},
		"queues":         {impl.World{Signs: [][]int{nil, {}, {0}, {2, 0, 1, 2}, {-1}}}, "cells\nrooms\nsign\nsign\nsign 0\nsign 2 0 1 2\nsign -1\n"},
		"output alone":   {impl.World{Said: []impl.Say{{Who: 9, N: -5000}, {}, {Who: -1, N: 1}, {}}}, "cells\nrooms\nsaid 9 -5000\nsaid 0 0\nsaid -1 1\nsaid 0 0\n"},
		"four processes": {impl.World{Procs: make([]impl.Proc, 4)}, strings.Repeat("proc 0 0 0\nregs\n()\n", 4) + "cells\nrooms\n"},
		"the ends of int": {
			impl.World{Procs: []impl.Proc{{Mode: math.MinInt, On: math.MaxInt, Room: math.MinInt, Regs: ints(math.MaxInt, math.MinInt), Todo: list(ends)}}, Cells: ints(math.MinInt, math.MaxInt), Rooms: ints(math.MaxInt, math.MinInt), Signs: [][]int{{math.MinInt, math.MaxInt}}, Said: []impl.Say{{Who: math.MinInt, N: math.MaxInt}}},
			strings.NewReplacer("L", least, "M", most).Replace("proc L M L\nregs M L\n(L,M,L,M()())\ncells L M\nrooms M L\nsign L M\nsaid L M\n"),
		},
		"several of all": {many(), "proc 9 -3 7\nregs 1 2 3 4\n(6,1,2,3(7,1,0,0(1,0,0,5()()5,2,0,0()())())(7,2,0,0(11,0,0,0()())())12,1,0,0()()5,0,0,0()())\n" +
			"proc 1 1 1\nregs 5\n(6,1,2,3(7,1,0,0(1,0,0,5()()5,2,0,0()())())(7,2,0,0(11,0,0,0()())())12,1,0,0()()5,0,0,0()())\n" +
			"proc 0 0 0\nregs\n()\ncells 1 -2000 3 4\nrooms 3 3 3\nsign 0 1 1\nsign\nsign 5\nsign -1 2\nsaid 8 5000\nsaid -1 1\nsaid 0 0\n"},
	} {
		checkText(t, c.w, c.want)
		if got := modelWorldText(c.w); got != c.want {
			t.Errorf("the model writes %q, not %q", got, c.want)
		}
		if t.Failed() {
			t.Fatal(name)
		}
	}
}

// checkTodo compares the text of a list in a configuration of nothing else.
func checkTodo(t *testing.T, todo []impl.Stmt, want string) {
	t.Helper()
	checkText(t, todoWorld(todo), "proc 0 0 0\nregs\n"+want+"\ncells\nrooms\n")
}

func TestWorldTextOfLists(t *testing.T) {
	one, other := list(say(2)), list(yields())
	for _, c := range []struct {
		s    impl.Stmt
		want string
	}{
		{impl.Stmt{}, "0,0,0,0()()"},
		{impl.Stmt{Body: one}, "0,0,0,0(5,2,0,0()())()"},
		{impl.Stmt{Else: one}, "0,0,0,0()(5,2,0,0()())"},
		{impl.Stmt{Kind: 13, A: 1, B: 2, N: 3, Body: one, Else: other}, "13,1,2,3(5,2,0,0()())(11,0,0,0()())"},
		{impl.Stmt{Kind: -1, A: -2, B: -3, N: -4, Body: other, Else: one}, "-1,-2,-3,-4(11,0,0,0()())(5,2,0,0()())"},
		{impl.Stmt{Kind: impl.StmtNum, A: 9, B: 8, N: 1000, Body: one}, "1,9,8,1000(5,2,0,0()())()"},
		{impl.Stmt{Kind: impl.StmtWhile, Else: one}, "7,0,0,0()(5,2,0,0()())"},
		{impl.Stmt{Kind: impl.StmtIn, A: 1, Body: one, Else: other}, "8,1,0,0(5,2,0,0()())(11,0,0,0()())"},
		{impl.Stmt{Kind: impl.StmtLeave, N: 1, Else: other}, "12,0,0,1()(11,0,0,0()())"},
		{impl.Stmt{Kind: impl.StmtYield, B: 1, Body: []impl.Stmt{}, Else: list(impl.Stmt{}, impl.Stmt{})}, "11,0,1,0()(0,0,0,0()()0,0,0,0()())"},
	} {
		checkTodo(t, list(c.s), "("+c.want+")")
		checkTodo(t, list(c.s, say(0), c.s), "("+c.want+"5,0,0,0()()"+c.want+")")
	}
	checkTodo(t, []impl.Stmt{}, "()")
	for kind := -2; kind < 16; kind++ {
		checkTodo(t, list(impl.Stmt{Kind: kind, Body: one, Else: list(impl.Stmt{Kind: kind})}), fmt.Sprintf("(%d,0,0,0(5,2,0,0()())(%d,0,0,0()()))", kind, kind))
	}
}

// nested returns a list that holds inner nested in that many lists, each time as the Body or the Else of the second statement.
func nested(inner []impl.Stmt, depth int, inElse bool) []impl.Stmt {
	for range depth {
		s := impl.Stmt{Kind: 6, Body: inner}
		if inElse {
			s.Body, s.Else = nil, inner
		}
		inner = list(yields(), s)
	}
	return inner
}

func TestWorldTextOfNestedLists(t *testing.T) {
	inner := list(say(1), while(0, say(2)))
	for depth := range 9 {
		// What the innermost list looks like tells how deep it is.
		want := "()"
		switch {
		case depth < 5:
			want = "(5,1,0,0()()7,0,0,0(5,2,0,0()())())"
		case depth == 5:
			want = "(5,1,0,0()()7,0,0,0()())"
		}
		bodies, others := want, want
		for range min(depth, 6) {
			bodies = "(11,0,0,0()()6,0,0,0" + bodies + "())"
			others = "(11,0,0,0()()6,0,0,0()" + others + ")"
		}
		checkTodo(t, nested(inner, depth, false), bodies)
		checkTodo(t, nested(inner, depth, true), others)
	}
	// Body and Else are counted alike.
	for depth := range 6 {
		for rest := range 5 {
			mixed := todoWorld(nested(nested(inner, rest, true), depth, false))
			checkText(t, mixed, modelWorldText(mixed))
			deeper := todoWorld(nested(nested(list(say(0)), rest, true), depth, false))
			if same := impl.WorldText(mixed) == impl.WorldText(deeper); same != (depth+rest >= 6) {
				t.Errorf("%d and %d lists: %v", depth, rest, same)
			}
		}
	}
}

func TestWorldTextOfListsThatHoldThemselves(t *testing.T) {
	checkTodo(t, ring(0), strings.Repeat("(7,0,0,0", 6)+"()"+strings.Repeat("())", 6))
	checkTodo(t, ring(1, 2), strings.Repeat("(7,1,0,0(7,2,0,0", 3)+"()"+strings.Repeat("())", 6))
	both := list(choose(0, nil, nil))
	both[0].Body, both[0].Else = both, both
	for _, todo := range [][]impl.Stmt{both, layers(90, 0), layers(5, 2), layers(6, 2), ring(0, 1, 2)} {
		checkTodo(t, todo, modelListText(todo, 6))
	}
	// Such a list must not need a stack as deep as it is.
	defer debug.SetMaxStack(debug.SetMaxStack(1 << 20))
	deep := list(say(0))
	for range 100000 {
		deep = list(while(0, deep...))
	}
	checkTodo(t, deep, modelListText(deep, 6))
}

func TestWorldTextOfMuch(t *testing.T) {
	const much = 50000
	w := impl.World{Procs: make([]impl.Proc, much), Cells: slices.Repeat(ints(-7), much), Rooms: fine(much), Signs: make([][]int, much), Said: make([]impl.Say, much)}
	w.Procs[0].Regs, w.Procs[1].Todo, w.Signs[0] = fine(much), repeat(say(1), much), slices.Repeat(ints(2), much)
	want := "proc 0 0 0\nregs" + strings.Repeat(" 0", much) + "\n()\nproc 0 0 0\nregs\n(" + strings.Repeat("5,1,0,0()()", much) + ")\n" + strings.Repeat("proc 0 0 0\nregs\n()\n", much-2) +
		"cells" + strings.Repeat(" -7", much) + "\nrooms" + strings.Repeat(" 0", much) + "\nsign" + strings.Repeat(" 2", much) + "\n" + strings.Repeat("sign\n", much-1) + strings.Repeat("said 0 0\n", much)
	if impl.WorldText(w) != want {
		t.Error("the text of much is another one")
	}
}

// TestWorldTextOfEveryField has every two of many differ in their texts.
func TestWorldTextOfEveryField(t *testing.T) {
	for i, one := range changes {
		w := with(many(), one)
		checkText(t, w, modelWorldText(w))
		for j, other := range changes {
			if same := impl.WorldText(w) == impl.WorldText(with(many(), other)); same != (i == j) {
				t.Errorf("changes %d and %d: %v", i, j, same)
			}
		}
	}
}

// checkExplored compares with the model, and returns the number of configurations and the ends.
func checkExplored(t *testing.T, p [][]impl.Stmt) (int, []impl.World, bool) {
	t.Helper()
	all, ok := modelAll(p)
	want, isStuck := modelEnds(all)
	many, counted := impl.AllMany(p)
	if many != len(all) || counted != ok {
		t.Errorf("there are %d configurations, %v, not %d, %v", many, counted, len(all), ok)
	}
	ends, found := impl.AllEnds(p)
	if len(ends) != len(want) || found != ok {
		t.Fatalf("there are %d ends, %v, not %d, %v", len(ends), found, len(want), ok)
	}
	again, _ := impl.AllEnds(p)
	for i, end := range ends {
		checkWorld(t, end, want[i])
		checkWorld(t, again[i], end)
		checkText(t, end, modelWorldText(want[i]))
		checkMonitors(t, end)
	}
	if stuck, known := impl.AllStuck(p); stuck != isStuck || known != ok {
		t.Errorf("somebody may be left: %v, %v, not %v, %v", stuck, known, isStuck, ok)
	}
	return many, ends, ok
}

// checkMany checks the number of configurations; 0 stands for too many.
func checkMany(t *testing.T, want int, p [][]impl.Stmt) {
	t.Helper()
	if many, _, ok := checkExplored(t, p); many != want || ok != (want > 0) {
		t.Errorf("there are %d configurations of %v, %v, not %d", many, p, ok, want)
	}
}

func TestAllManyOfOneProcess(t *testing.T) {
	checkMany(t, 1, [][]impl.Stmt{nil})
	checkMany(t, 1, [][]impl.Stmt{{}})
	for many := 1; many <= 14; many++ {
		// As many as its steps and one, also where nothing but the Todo changes.
		checkMany(t, many+1, [][]impl.Stmt{repeat(yields(), many)})
		checkMany(t, many+1, [][]impl.Stmt{repeat(say(0), many)})
		checkMany(t, many+1, [][]impl.Stmt{repeat(store(0, 0), many)})
	}
	for text, want := range map[string]int{
		"num 0 1 num 0 1": 3, "if 0 [ say 0 say 0 ] [ yield ]": 3, "num 0 1 if 0 [ say 0 say 0 ] [ yield ]": 5,
		"in 0 [ ]": 3, "in 0 [ yield ] in 1 [ say 0 ]": 7, "in 1 [ wait 0 ]": 3, "in 1 [ wait 1 ] yield yield": 3, "signal 0 signal 1": 3,
		"while 0 [ yield ]": 2, "num 0 1 while 0 [ num 0 0 ]": 5,
	} {
		checkMany(t, want, program(t, text))
	}
	for steps := 3; steps <= 119; steps += 4 {
		checkMany(t, steps+1, program(t, countdown(steps)))
	}
}

// Where the configurations come back they are not counted again.
func TestAllManyOfLoops(t *testing.T) {
	for text, want := range map[string]int{
		"num 0 1 while 0 [ ]": 2, "num 0 1 while 0 [ yield ]": 3, "num 0 1 while 0 [ yield yield ]": 4, "num 0 1 while 0 [ num 0 1 ]": 3,
		"num 0 1 while 0 [ while 0 [ ] ]": 3, "num 0 1 while 0 [ in 0 [ ] ]": 4, "in 0 [ num 0 1 while 0 [ yield ] ]": 4,
		// The second time a register or a cell has another number.
		"num 0 1 while 0 [ store 0 0 ]": 5, "num 0 1 while 0 [ store 0 0 load 1 0 ]": 7, "num 0 1 while 0 [ num 1 5 ]": 5,
		// It has another one each time: up to the bound, which is too far, or down to 0.
		"num 0 1 while 0 [ add 0 0 ]": 2*11 + 1, "num 0 1 num 1 1 while 0 [ add 1 0 ]": 0, "num 0 5 num 1 1 while 0 [ sub 0 1 ]": 2 + 2*5 + 2,
		// It says something for ever.
		"num 0 1 while 0 [ say 0 ]": 0, "num 0 1 while 0 [ while 0 [ say 1 ] ]": 0, "num 0 1 while 0 [ in 0 [ say 0 ] ]": 0,
	} {
		checkMany(t, want, program(t, text))
	}
	checkMany(t, 4, program(t, forever, forever))
	checkMany(t, 8, program(t, forever, forever, forever))
	checkMany(t, 0, program(t, "-", "num 0 1 while 0 [ say 0 ]", "-"))
	checkMany(t, 0, program(t, forever, "yield num 0 1 while 0 [ say 0 ]"))
	// It would if it could go on.
	checkMany(t, 3, program(t, "in 0 [ wait 0 ] num 0 1 while 0 [ say 0 ]"))
}

// Two ways to one configuration count once.
func TestAllManyOfSeveralProcesses(t *testing.T) {
	for _, c := range []struct {
		want  int
		texts []string
	}{
		{1, []string{"-", "-"}}, {1, []string{"-", "-", "-"}}, {2, []string{"-", "yield", "-"}}, {4, []string{"yield", "yield"}}, {6, []string{"yield yield", "yield"}}, {8, []string{"yield", "yield", "yield"}},
		{4, []string{"num 0 1", "num 0 1"}}, {4, []string{"store 0 0", "store 0 0"}},
		// The last one to store is seen, and so is the order of the output.
		{3*3 + 1, []string{"num 0 1 store 0 0", "num 0 2 store 0 0"}}, {5, []string{"say 0", "say 0"}}, {16, []string{"say 0", "say 0", "say 0"}},
		// Nobody comes in while another is inside; two in different rooms do not disturb each other.
		{8, []string{"in 0 [ ]", "in 0 [ ]"}}, {9, []string{"in 0 [ ]", "in 1 [ ]"}}, {20, []string{"in 0 [ ]", "in 0 [ ]", "in 0 [ ]"}},
		// Who waited first is seen in the queue, if it is the same one.
		{9, []string{"in 0 [ wait 0 ]", "signal 0"}}, {6, []string{"in 0 [ wait 0 ]", "signal 1"}}, {10, []string{"in 0 [ wait 0 ]", "in 1 [ wait 0 ]"}}, {9, []string{"in 0 [ wait 0 ]", "in 1 [ wait 1 ]"}},
	} {
		checkMany(t, c.want, program(t, c.texts...))
		if t.Failed() {
			t.Fatalf("%q", c.texts)
		}
	}
}

// TestMostConfigurations has programs with 120 reachable configurations, with one less, and with one more.
func TestMostConfigurations(t *testing.T) {
	idle := func(many ...int) [][]impl.Stmt {
		var p [][]impl.Stmt
		for _, n := range many {
			p = append(p, repeat(yields(), n))
		}
		return p
	}
	for _, p := range [][][]impl.Stmt{idle(14, 7), idle(7, 14), idle(9, 11), idle(3, 4, 5), idle(1, 3, 14), idle(14, 0, 7), program(t, countdown(119)), program(t, "-", countdown(119))} {
		checkMany(t, 120, p)
	}
	for _, p := range [][][]impl.Stmt{program(t, countdown(118)), program(t, "-", "-", countdown(118))} {
		checkMany(t, 119, p)
	}
	for _, p := range [][][]impl.Stmt{idle(10, 10), idle(10, 0, 10), idle(0, 10, 10), program(t, countdown(120)), program(t, "-", countdown(120)), idle(14, 8), idle(14, 14, 14), idle(4, 4, 4), program(t, countdown(200))} {
		checkMany(t, 0, p)
		checkNoneOf(t, p)
	}
}

func checkNoneOf(t *testing.T, p [][]impl.Stmt) {
	t.Helper()
	many, counted := impl.AllMany(p)
	ends, found := impl.AllEnds(p)
	stuck, known := impl.AllStuck(p)
	if many != 0 || counted || len(ends) != 0 || found || stuck || known {
		t.Errorf("%d, %v, %v, %v, %v, %v", many, counted, ends, found, stuck, known)
	}
}

func TestAllOfInvalidPrograms(t *testing.T) {
	for name, p := range invalidPrograms() {
		checkNoneOf(t, p)
		if t.Failed() {
			t.Fatal(name)
		}
	}
}

// checkEnds checks the ends in their order.
func checkEnds(t *testing.T, p [][]impl.Stmt, want ...impl.World) {
	t.Helper()
	_, ends, ok := checkExplored(t, p)
	if !ok || len(ends) != len(want) {
		t.Fatalf("%v: there are %d ends, %v, not %d", p, len(ends), ok, len(want))
	}
	for i, end := range ends {
		checkWorld(t, end, want[i])
	}
}

func withQueues(w impl.World, queues ...[]int) impl.World {
	w.Signs = queues
	return w
}

// Nothing can go: the opening configuration is the only one.
func TestEndsOfNothing(t *testing.T) {
	for many := 1; many <= 3; many++ {
		p := make([][]impl.Stmt, many)
		checkEnds(t, p, impl.MeanOpen(p))
		checkMany(t, 1, p)
	}
}

func TestEndsOfOneProcess(t *testing.T) {
	checkEnds(t, program(t, "num 0 5 say 0 store 2 0"), told(withCells(fresh(regs(5, 0, 0)), 0, 0, 5), 0, 5))
	checkEnds(t, program(t, "num 1 3 if 1 [ say 1 ] [ yield ] if 0 [ say 0 ] [ num 2 4 ]"), told(fresh(regs(0, 3, 4)), 0, 3))
	checkEnds(t, program(t, "in 1 [ say 0 ]"), told(fresh(runs()), 0, 0))
	checkEnds(t, program(t, countdown(119)), fresh(regs(0, 1, 0)))
	// One that waits keeps what is left to do.
	checkEnds(t, program(t, "in 1 [ wait 1 say 0 ] yield"), withQueues(fresh(inside(1, 1, 1, say(0), leave(1), yields())), nil, ints(0)))
	// One that goes on for ever has no end.
	checkEnds(t, program(t, forever))
	checkEnds(t, program(t, "in 0 [ "+forever+" ]"))
	checkEnds(t, program(t, "-", forever))
	checkEnds(t, program(t, "in 0 [ wait 0 ]", forever))
}

func TestEndsOfBareCells(t *testing.T) {
	const bare = "num 1 1 load 0 0 add 0 1 store 0 0"
	one, two := regs(1, 1, 0), regs(2, 1, 0)
	checkEnds(t, program(t, bare, bare), withCells(fresh(one, two), 2, 0, 0), withCells(fresh(one, one), 1, 0, 0), withCells(fresh(two, one), 2, 0, 0))
	// A monitor leaves no end in which one is lost.
	const whole = "in 0 [ num 1 1 load 0 0 add 0 1 store 0 0 ]"
	checkEnds(t, program(t, whole, whole), withCells(fresh(one, two), 2, 0, 0), withCells(fresh(two, one), 2, 0, 0))
}

// Ends of as many steps are in the order of the processes.
func TestEndsByProcess(t *testing.T) {
	done := fresh(runs(), runs())
	checkEnds(t, program(t, "say 0", "say 0"), told(done, 0, 0, 1, 0), told(done, 1, 0, 0, 0))
	checkEnds(t, program(t, "num 0 1 store 0 0", "num 0 2 store 0 0"), withCells(fresh(regs(1, 0, 0), regs(2, 0, 0)), 2, 0, 0), withCells(fresh(regs(1, 0, 0), regs(2, 0, 0)), 1, 0, 0))
	three := fresh(runs(), runs(), runs())
	var want []impl.World
	for _, order := range [][]int{{0, 1, 2}, {0, 2, 1}, {1, 0, 2}, {1, 2, 0}, {2, 0, 1}, {2, 1, 0}} {
		want = append(want, told(three, order[0], 0, order[1], 0, order[2], 0))
	}
	checkEnds(t, program(t, "say 0", "say 0", "say 0"), want...)
	checkEnds(t, program(t, "say 0", "-", "say 0"), told(three, 0, 0, 2, 0), told(three, 2, 0, 0, 0))
	// Who waited first is in front.
	p := program(t, "in 0 [ wait 0 ]", "in 0 [ wait 0 ]")
	waiting := fresh(inside(0, 1, 0, leave(0)), inside(0, 1, 0, leave(0)))
	checkEnds(t, p, withQueues(waiting, ints(0, 1), nil), withQueues(waiting, ints(1, 0), nil))
}

// An end of fewer steps is in front of one of more, whoever takes them.
func TestEndsByBreadth(t *testing.T) {
	const stores = "num 0 1 store 0 0"
	early, late := withCells(fresh(regs(0, 0, 0), regs(1, 0, 0)), 1, 0, 0), withCells(fresh(regs(1, 0, 0), regs(1, 0, 0)), 1, 0, 0)
	checkEnds(t, program(t, "load 0 0 if 0 [ ] [ yield yield ]", stores), late, early)
	checkEnds(t, program(t, "load 0 0 if 0 [ yield yield ] [ ]", stores), early, late)
	checkEnds(t, program(t, "load 0 0 if 0 [ ] [ ]", stores), early, late)
	swap := func(w impl.World) impl.World {
		return with(w, func(w *impl.World) { w.Procs = []impl.Proc{w.Procs[1], w.Procs[0]} })
	}
	checkEnds(t, program(t, stores, "load 0 0 if 0 [ ] [ yield yield ]"), swap(late), swap(early))
	checkEnds(t, program(t, stores, "load 0 0 if 0 [ yield yield ] [ ]"), swap(early), swap(late))
	// With as many steps, the end in which process 0 stores first.
	checkEnds(t, program(t, stores, "load 0 0 if 0 [ ] [ ]"), swap(late), swap(early))
}

// In these ends somebody waits.
func TestEndsInWhichOneWaits(t *testing.T) {
	waits, done := inside(0, 1, 0, leave(0)), runs()
	checkEnds(t, program(t, "in 0 [ wait 0 ]", "signal 0"), withQueues(fresh(waits, done), ints(0), nil), fresh(done, done))
	checkEnds(t, program(t, "in 0 [ wait 0 ]", "signal 1"), withQueues(fresh(waits, done), ints(0), nil))
	checkEnds(t, program(t, "in 0 [ wait 0 ]", "in 0 [ signal 0 ]"), withQueues(fresh(waits, done), ints(0), nil), fresh(done, done))
	// Each waits for the signal that the other one would give.
	p := program(t, "in 0 [ wait 0 ] signal 1", "in 1 [ wait 1 ] signal 0")
	checkEnds(t, p, withQueues(fresh(inside(0, 1, 0, leave(0), signal(1)), inside(1, 1, 1, leave(1), signal(0))), ints(0), ints(1)))
	// One of two is signaled, the first.
	p = program(t, "in 0 [ wait 1 ]", "in 1 [ wait 1 ]", "in 0 [ ] signal 1")
	_, ends, _ := checkExplored(t, p)
	left := map[string]bool{}
	for _, end := range ends {
		left[fmt.Sprint(end.Signs[1])] = true
	}
	if len(left) != 4 || !left["[0 1]"] || !left["[1 0]"] || !left["[0]"] || !left["[1]"] {
		t.Error(left)
	}
}

// One who is to come back stands before a monitor for ever if another one is in it for ever: but then that one goes on,
// so that there is no end. No StmtIn is inside of another, so that whoever is in a monitor can always go on.
func TestNoEndsBehindAMonitorThatIsHeldForEver(t *testing.T) {
	for _, texts := range [][]string{
		{"in 0 [ wait 0 ]", "in 0 [ signal 0 " + forever + " ]"},
		{"in 0 [ ]", "in 0 [ " + forever + " ]"},
		{"in 0 [ " + forever + " ]", "in 1 [ " + forever + " ]", "in 1 [ ]"},
	} {
		p := program(t, texts...)
		checkEnds(t, p)
		checkStuck(t, false, texts...)
	}
	// Two that are each in the monitor that the other one wants would have to be in two monitors.
	checkNoneOf(t, [][]impl.Stmt{list(in(0, in(1))), list(in(1, in(0)))})
	// If the other one may also come out again, there is an end, and nobody is left in it.
	p := program(t, "in 0 [ wait 0 ]", "in 0 [ signal 0 load 0 0 while 0 [ ] ]", "num 0 1 store 0 0")
	waits, done, one := inside(0, 1, 0, leave(0)), runs(), regs(1, 0, 0)
	checkEnds(t, p, withCells(withQueues(fresh(waits, done, one), ints(0), nil), 1, 0, 0), withCells(fresh(done, done, one), 1, 0, 0))
}

// checkNothingHeld makes sure of what holds in each end, as whoever is in a monitor can go on.
func checkNothingHeld(t *testing.T, end impl.World) {
	t.Helper()
	for _, holder := range end.Rooms {
		if holder != 0 {
			t.Errorf("a monitor is held at the end: %s", shown(end))
		}
	}
	for who, proc := range end.Procs {
		if proc.Mode == impl.ProcBack || proc.Mode == impl.ProcRuns && len(proc.Todo) > 0 {
			t.Errorf("process %d could go on: %s", who, shown(end))
		}
	}
}

func checkStuck(t *testing.T, want bool, texts ...string) {
	t.Helper()
	p := program(t, texts...)
	checkExplored(t, p)
	if stuck, ok := impl.AllStuck(p); stuck != want || !ok {
		t.Errorf("%q: somebody may be left: %v, %v", texts, stuck, ok)
	}
}

func TestAllStuck(t *testing.T) {
	// All are done in each end, or there is none.
	for _, texts := range [][]string{
		{"-"}, {"yield"}, {"say 0", "say 0"}, {"-", "-", "-"}, {"in 0 [ ]", "in 0 [ ]", "in 1 [ signal 0 ]"}, {forever}, {"num 0 1 while 0 [ yield ]", "-"},
		{"in 0 [ wait 0 ]", "num 0 1 while 0 [ signal 0 ]"}, {"in 0 [ wait 0 ]", forever},
		{"in 0 [ load 0 0 if 0 [ ] [ wait 0 ] ]", "in 0 [ num 0 1 store 0 0 signal 0 ]"},
	} {
		checkStuck(t, false, texts...)
	}
	for _, texts := range [][]string{
		{"in 0 [ wait 0 ]"}, {"in 1 [ wait 1 ]", "-"}, {"-", "-", "in 1 [ wait 0 ]"}, {"in 0 [ wait 0 ]", "in 0 [ wait 1 ]"}, {"in 0 [ wait 0 ] signal 1", "in 1 [ wait 1 ] signal 0"},
		// In some ends, of more or of fewer steps than the others.
		{"in 0 [ wait 0 ]", "signal 0"}, {"signal 0", "in 0 [ wait 0 ]"}, {"load 0 0 if 0 [ ] [ in 0 [ wait 0 ] ]", "num 0 1 store 0 0"}, {"load 0 0 if 0 [ in 0 [ wait 0 ] ] [ ]", "num 0 1 store 0 0"},
		{"in 0 [ wait 0 ] signal 0", "in 0 [ wait 0 ]", "signal 0"},
		// It waits while another one may go on for ever or not.
		{"in 0 [ wait 0 ]", "load 0 0 while 0 [ ]", "num 0 1 store 0 0"},
	} {
		checkStuck(t, true, texts...)
	}
	// It is not known where there are too many configurations, even if the first end is known.
	p := program(t, "load 0 0 if 0 [ num 0 1 while 0 [ say 0 ] ] [ in 0 [ wait 0 ] ]", "num 0 1 store 0 0")
	checkNoneOf(t, p)
	checkMany(t, 0, p)
}

// TestStepsOfAllShortPlays plays all sequences of up to eight picks, which is as far as these programs go: what they
// come to is what is enumerated.
func TestStepsOfAllShortPlays(t *testing.T) {
	for _, texts := range [][]string{
		{"say 0 store 0 0", "num 0 1 say 0", "load 0 0"}, {"in 0 [ wait 0 ]", "in 0 [ ]", "signal 0"}, {"in 0 [ wait 1 ]", "in 1 [ wait 1 ]", "signal 1"},
		{"num 0 1 while 0 [ ]", "in 0 [ wait 0 ]", "say 0 signal 0"}, {"in 0 [ load 0 0 ]", "num 0 1 in 0 [ store 0 0 ]", "-"}, {"load 0 0 if 0 [ in 0 [ wait 0 ] ] [ ]", "num 0 1 store 0 0", "load 0 0 store 0 1"},
	} {
		p := program(t, texts...)
		_, ends, ok := checkExplored(t, p)
		all, atEnd := map[string]bool{}, map[string]bool{}
		for many := range 9 {
			for picks := range sequences(many, 3) {
				w, _ := impl.MeanPlay(p, picks)
				all[impl.WorldText(w)] = true
				if len(impl.MeanCan(p, picks)) == 0 {
					atEnd[impl.WorldText(w)] = true
				}
			}
		}
		if many, _ := impl.AllMany(p); !ok || many != len(all) || len(ends) != len(atEnd) {
			t.Errorf("%q: %d configurations and %d ends, and in plays %d and %d", texts, many, len(ends), len(all), len(atEnd))
		}
		for _, end := range ends {
			if !atEnd[impl.WorldText(end)] {
				t.Errorf("%q: no play comes to %s", texts, shown(end))
			}
		}
	}
}

// checkAmong makes sure that a final configuration is exactly one of the ends.
func checkAmong(t *testing.T, w impl.World, ends []impl.World) {
	t.Helper()
	same, texts := 0, 0
	for _, end := range ends {
		same += oneIf(impl.WorldSame(w, end) && shown(w) == shown(end))
		texts += oneIf(impl.WorldText(w) == impl.WorldText(end))
	}
	if same != 1 || texts != 1 {
		t.Errorf("%d of the ends, and %d by their texts, are\n%s", same, texts, shown(w))
	}
}

// checkFinal holds promise 9 for an execution, if it comes to an end; ends are those of AllEnds.
func checkFinal(t *testing.T, p [][]impl.Stmt, gaps []int, fuel int, ends []impl.World) int {
	t.Helper()
	c, how := impl.CpuRun(p, gaps, fuel)
	if how == impl.CpuFuel {
		return how
	}
	w, _ := impl.MeanPlay(p, c.Picks)
	checkAmong(t, w, ends)
	if !impl.CpuTwin(c, w) {
		t.Errorf("the processor is another one: %s", shownCpu(c))
	}
	if stuck, _ := impl.AllStuck(p); how == impl.CpuStuck && !stuck {
		t.Error("the processor is stuck, and AllStuck is false")
	}
	if t.Failed() {
		t.Fatalf("%v, gaps %v, fuel %d", p, gaps, fuel)
	}
	return how
}

// few are programs with no more than 120 configurations, of one, two and three processes.
var few = [][]string{
	{"num 0 1 say 0 in 0 [ signal 0 ] say 0"}, {"in 0 [ yield wait 0 ]"}, {"num 0 3 num 1 1 while 0 [ sub 0 1 say 0 ]"}, {"in 0 [ load 0 0 ] in 1 [ store 1 0 wait 1 ] say 0"},
	{"num 1 1 load 0 0 add 0 1 store 0 0", "num 1 1 load 0 0 add 0 1 store 0 0"}, {"in 0 [ wait 0 say 0 ]", "in 0 [ signal 0 ] say 0"}, {"in 0 [ wait 1 ] signal 0", "in 0 [ signal 1 wait 0 ]"},
	{"in 0 [ wait 0 ]", "in 1 [ wait 0 ]"}, {"num 0 1 while 0 [ in 0 [ load 0 0 ] ]", "in 0 [ wait 0 ]"}, {"say 0 yield say 0", "yield say 0"}, {"in 0 [ load 0 0 if 0 [ ] [ wait 0 ] ]", "in 0 [ num 0 1 store 0 0 signal 0 ]"},
	{"in 0 [ wait 0 ]", "in 0 [ ]", "signal 0"}, {"in 0 [ wait 1 ]", "in 1 [ wait 1 ]", "signal 1 signal 1"}, {"say 0", "say 0", "say 0"}, {"in 0 [ yield ]", "in 0 [ yield ]", "in 1 [ ]"}, {"load 0 0 say 0", "num 0 1 store 0 0", "-"},
	{"in 0 [ signal 0 ]", "signal 0", "in 0 [ wait 0 ]"}, {forever, "in 0 [ wait 0 ]", "signal 0"}, {"in 0 [ wait 0 ]", "in 0 [ wait 0 ]", "signal 0"}, {"in 1 [ wait 1 ]", "say 0", "say 0"},
}

// TestFinalUnderSeveralGaps tries each gap alone with any fuel, and every three gaps of up to four instructions.
func TestFinalUnderSeveralGaps(t *testing.T) {
	hows := map[int]int{}
	for _, texts := range few {
		p := program(t, texts...)
		_, ends, ok := checkExplored(t, p)
		if !ok {
			t.Fatalf("%q has too many configurations", texts)
		}
		for gap := 1; gap <= 12; gap++ {
			for fuel := range 91 {
				hows[checkFinal(t, p, ints(gap), fuel, ends)]++
			}
			hows[checkFinal(t, p, ints(gap, 13-gap), 90, ends)]++
		}
		for i := range 64 {
			hows[checkFinal(t, p, ints(1+i%4, 1+i/4%4, 1+i/16), 90, ends)]++
		}
	}
	if hows[impl.CpuDone] == 0 || hows[impl.CpuStuck] == 0 || hows[impl.CpuFuel] == 0 {
		t.Error(hows)
	}
}

// meeting makes a process that mostly meets others: in monitors, by cells or by signals.
func (m maker) meeting(many int) []impl.Stmt {
	var out []impl.Stmt
	for range many {
		room, sign, cell := m.IntN(2), m.IntN(2), m.IntN(2)
		out = append(out, []impl.Stmt{
			in(room, wait(sign)), in(room, wait(sign)), in(room, signal(sign)), signal(sign), in(room), say(0), store(cell, 1),
			choose(0, list(in(room, wait(sign))), list(load(0, cell))), num(1, m.IntN(3)), load(0, cell), while(0, num(0, 0)),
		}[m.IntN(11)])
	}
	return out
}

// brief makes a program that has seldom too many configurations.
func (m maker) brief() [][]impl.Stmt {
	var p [][]impl.Stmt
	processes := 1 + m.IntN(3)
	for range processes {
		left := []int{0, 12, 6, 3}[processes]
		if m.IntN(3) == 0 {
			p = append(p, m.stmts(&left, 3, -1))
		} else {
			p = append(p, m.meeting(m.IntN([]int{0, 5, 4, 3}[processes])))
		}
	}
	return p
}

// checkPlayed holds the promise for a play, and returns the text of the end that it comes to, if any.
func checkPlayed(t *testing.T, m maker, p [][]impl.Stmt, ends []impl.World) string {
	t.Helper()
	picks, _ := m.toTheEnd(p)
	if len(impl.MeanCan(p, picks)) > 0 {
		return ""
	}
	w, _ := impl.MeanPlay(p, picks)
	checkAmong(t, w, ends)
	return impl.WorldText(w)
}

// TestFinalOfMadePrograms compares made programs with the model, and has the processor and other plays come to their ends.
func TestFinalOfMadePrograms(t *testing.T) {
	m := maker{rand.New(rand.NewPCG(8, 14))}
	seen := map[string]int{}
	for range 2000 {
		p := m.brief()
		_, ends, ok := checkExplored(t, p)
		if t.Failed() {
			t.Fatal(p)
		}
		if !ok {
			seen["too many"]++
			continue
		}
		for _, end := range ends {
			checkNothingHeld(t, end)
		}
		stuck, _ := impl.AllStuck(p)
		seen[fmt.Sprint(len(p), " processes, stuck ", stuck)]++
		seen[fmt.Sprint("ends: ", min(len(ends), 3))]++
		for range 6 {
			seen[[]string{"done", "fuel", "stuck"}[checkFinal(t, p, m.gaps(), 90-m.IntN(2)*m.IntN(91), ends)]]++
			seen["play"] += oneIf(checkPlayed(t, m, p, ends) != "")
		}
		if t.Failed() {
			t.Fatal(p)
		}
	}
	checkHappened(t, seen, "too many", "done", "fuel", "stuck", "play", "ends: 0", "ends: 1", "ends: 2", "ends: 3")
	checkHappened(t, seen, "1 processes, stuck false", "1 processes, stuck true", "2 processes, stuck false", "2 processes, stuck true", "3 processes, stuck false", "3 processes, stuck true")
}

// TestEachEndIsPlayed has every play that is possible come to an end, and finds all the ends.
func TestEachEndIsPlayed(t *testing.T) {
	m := maker{rand.New(rand.NewPCG(88, 14))}
	for _, texts := range few {
		p := program(t, texts...)
		ends, _ := impl.AllEnds(p)
		found := map[string]bool{}
		for range 300 {
			found[checkPlayed(t, m, p, ends)] = true
		}
		delete(found, "")
		if len(found) != len(ends) {
			t.Errorf("%q: %d of the %d ends are found", texts, len(found), len(ends))
		}
	}
}

// scattered is a program, the last process of which has the memory of the one before it, whose ends have something in
// every slice.
func scattered(t *testing.T) [][]impl.Stmt {
	t.Helper()
	p := program(t,
		"num 0 1 say 0 while 0 [ in 0 [ wait 0 if 0 [ ] [ ] ] if 1 [ say 0 ] [ yield yield ] ] while 1 [ say 0 ]",
		"in 1 [ wait 0 if 0 [ say 0 yield ] [ yield yield ] while 2 [ say 0 ] ] while 0 [ say 0 ]")
	return append(p, p[1])
}

func endPlaces(ends []impl.World) []any {
	out := places(ends)
	for _, end := range ends {
		out = append(out, worldPlaces(end)...)
	}
	return out
}

func TestAllSharesNoMemory(t *testing.T) {
	p := scattered(t)
	all := slices.Concat(stmtPlaces(p[0]), stmtPlaces(p[1]), places(p))
	for _, q := range [][][]impl.Stmt{p, p, p[1:], p[:2], p[:1]} {
		_, ends, ok := checkExplored(t, q)
		if !ok || len(ends) < len(q)-1 || len(ends[0].Signs[0]) != len(q) {
			t.Errorf("%d processes: %d ends", len(q), len(ends))
		}
		all = append(all, endPlaces(ends)...)
	}
	for _, texts := range few {
		q := program(t, texts...)
		first, _ := impl.AllEnds(q)
		second, _ := impl.AllEnds(q)
		all = slices.Concat(all, endPlaces(first), endPlaces(second), places(q))
		for _, process := range q {
			all = append(all, stmtPlaces(process)...)
		}
	}
	// The opening configuration is an end, too.
	for range 2 {
		ends, _ := impl.AllEnds(make([][]impl.Stmt, 3))
		all = append(all, endPlaces(ends)...)
	}
	checkApart(t, all)
}

// A result stays as it is when an argument or another result is changed behind the call.
func TestAllResultsStay(t *testing.T) {
	p := scattered(t)
	first, _ := impl.AllEnds(p)
	second, _ := impl.AllEnds(p)
	want, last := fmt.Sprintf("%+v", first), len(first)-1
	for _, end := range second {
		clearWorld(end)
	}
	clearProgram(p)
	if got := fmt.Sprintf("%+v", first); got != want {
		t.Errorf("%s has become %s", want, got)
	}
	end := shown(first[last])
	for _, other := range first[:last] {
		clearWorld(other)
	}
	if got := shown(first[last]); got != end || last == 0 {
		t.Errorf("%s has become %s", end, got)
	}
}

// clearWorld makes all that a configuration holds zero, up to the capacities of its slices.
func clearWorld(w impl.World) {
	for _, proc := range w.Procs {
		clear(proc.Regs[:cap(proc.Regs)])
		clearProgram([][]impl.Stmt{proc.Todo})
	}
	for _, numbers := range append(slices.Clone(w.Signs), w.Cells, w.Rooms) {
		clear(numbers[:cap(numbers)])
	}
	clear(w.Procs[:cap(w.Procs)])
	clear(w.Signs[:cap(w.Signs)])
	clear(w.Said[:cap(w.Said)])
}

func TestAllChangesNoArgument(t *testing.T) {
	p := roomyProgram(scattered(t))
	w := many()
	w.Procs[0].Regs, w.Procs[0].Todo = roomy(w.Procs[0].Regs, 55), roomy(w.Procs[0].Todo, say(56))
	w.Cells, w.Rooms, w.Signs[0], w.Said = roomy(w.Cells, 57), roomy(w.Rooms, 58), roomy(w.Signs[0], 59), roomy(w.Said, impl.Say{N: 60})
	look := func() string {
		first := w.Procs[0]
		all := fmt.Sprint(p[:cap(p)], shown(w), first.Regs[:cap(first.Regs)], first.Todo[:cap(first.Todo)], w.Cells[:cap(w.Cells)], w.Rooms[:cap(w.Rooms)], w.Signs[0][:cap(w.Signs[0])], w.Said[:cap(w.Said)])
		for _, process := range p {
			all += fmt.Sprint(slicesOf(process))
		}
		return all
	}
	before := look()
	for range 2 {
		impl.WorldText(w)
		impl.AllMany(p)
		impl.AllEnds(p)
		impl.AllStuck(p)
	}
	if after := look(); after != before {
		t.Errorf("%s has become %s", before, after)
	}
}
