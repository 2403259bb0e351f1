package tests

import (
	"fmt"
	"math"
	"math/rand/v2"
	"runtime"
	"slices"
	"strings"
	"sync"
	"testing"
	"time"

	"loop.example/changeringer/impl"
)

// These tests hold promise 10: optimized code performs steps of the program: whatever the timer does, an execution of it
// corresponds to an interleaving of the reference semantics.

// codePass is one of the functions that return other code.
type codePass func(c []impl.Ins) []impl.Ins

var codePasses = map[string]codePass{"SlimJumps": impl.SlimJumps, "SlimDead": impl.SlimDead, "Slim": impl.Slim}

// checkPass makes sure of the result of a pass, of a second one, and of what holds for each.
func checkPass(t *testing.T, pass codePass, c, want []impl.Ins) {
	t.Helper()
	handed := slices.Clone(c)
	got := pass(handed)
	if !slices.Equal(got, want) || !impl.CodeSame(got, want) {
		t.Errorf("%q becomes\n%q, not\n%q", modelText(c), modelText(got), modelText(want))
	}
	if again := pass(handed); !slices.Equal(again, want) {
		t.Errorf("%q becomes\n%q, and then\n%q", modelText(c), modelText(got), modelText(again))
	}
	if !slices.Equal(handed, c) {
		t.Errorf("%v has been changed to %v", c, handed)
	}
	checkGood(t, got, modelText(want))
	checkWalks(t, got)
	checkSameWalks(t, c, got)
}

func checkPassLines(t *testing.T, pass codePass, from, to []string) {
	t.Helper()
	checkPass(t, pass, lines(from...), lines(to...))
}

// checkKept makes sure that each of these is as it was behind a pass.
func checkKept(t *testing.T, pass codePass, codes ...[]string) {
	t.Helper()
	for _, texts := range codes {
		checkPassLines(t, pass, texts, texts)
	}
}

// checkSameWalks goes through two codes side by side, by both ways of each InsSkip: but for jumps, they have to do the
// same, or both jump for ever.
func checkSameWalks(t *testing.T, a, b []impl.Ins) {
	t.Helper()
	landsA, landsB := modelLands(a), modelLands(b)
	met := map[[2]int]bool{}
	var walk func(at, other int)
	walk = func(at, other int) {
		at, other = landsA[at], landsB[other]
		if met[[2]int{at, other}] || at < 0 && other < 0 {
			return
		}
		met[[2]int{at, other}] = true
		if at < 0 || other < 0 {
			t.Errorf("only one of them jumps for ever:\n%q\n%q", modelText(a), modelText(b))
			return
		}
		i, j := a[at], b[other]
		if i.Op == impl.InsSkip {
			j.N = i.N
		}
		if i != j {
			t.Errorf("%v at %d has become %v at %d:\n%q\n%q", i, at, b[other], other, modelText(a), modelText(b))
			return
		}
		for way, next := range modelNext(i, at) {
			walk(next, modelNext(b[other], other)[way])
		}
	}
	walk(0, 0)
}

// marksOf is an x for each index that is reachable, and a dot for each other one.
func marksOf(reach []bool) string {
	marks := ""
	for _, is := range reach {
		marks += []string{".", "x"}[oneIf(is)]
	}
	return marks
}

func checkReach(t *testing.T, c []impl.Ins, marks string) {
	t.Helper()
	handed := slices.Clone(c)
	got, again := impl.SlimReach(handed), impl.SlimReach(handed)
	if marksOf(got) != marks || marksOf(again) != marks {
		t.Errorf("of %q, %s are reachable, and then %s, not %s", modelText(c), marksOf(got), marksOf(again), marks)
	}
	if !slices.Equal(handed, c) {
		t.Errorf("%v has been changed to %v", c, handed)
	}
}

// checkSlimmed compares all that the chapter makes of code with the model, and returns the rounds of Slim.
func checkSlimmed(t *testing.T, c []impl.Ins) int {
	t.Helper()
	want, rounds := modelSlim(c)
	checkPass(t, impl.SlimJumps, c, modelJumps(c))
	checkPass(t, impl.SlimDead, c, modelDead(c))
	checkPass(t, impl.Slim, c, want)
	checkPass(t, impl.Slim, want, want)
	checkReach(t, c, marksOf(modelReach(c)))
	if t.Failed() {
		t.Fatalf("%q", modelText(c))
	}
	return rounds
}

// allOps has an instruction of each op in it, with fields of different values and without jumps.
var allOps = []string{
	"num 2 -7", "do 1 2 3", "load 2 1", "store 1 2", "say 2", "skip 2 0", "enter 1", "wait 1", "signal 0", "leave 1", "yield", "enter 0", "wait 0", "signal 1", "leave 0", "end",
}

func TestSlimJumps(t *testing.T) {
	for _, c := range [][2][]string{
		// To an InsJump.
		{{"jump 2", "say 0", "jump 1", "end"}, {"jump 1", "say 0", "jump 1", "end"}},
		{{"skip 1 2", "say 0", "jump 4", "say 1", "end"}, {"skip 1 4", "say 0", "jump 4", "say 1", "end"}},
		{{"say 0", "skip 2 3", "yield", "jump 0", "end"}, {"say 0", "skip 2 0", "yield", "jump 0", "end"}},
		{{"skip 0 1", "jump 3", "say 0", "say 1", "end"}, {"skip 0 3", "jump 3", "say 0", "say 1", "end"}},
		// Along a chain of several, upwards, downwards and both.
		{{"jump 1", "jump 2", "jump 3", "say 0", "end"}, {"jump 3", "jump 3", "jump 3", "say 0", "end"}},
		{{"jump 4", "say 0", "jump 1", "jump 2", "jump 3", "end"}, {"jump 1", "say 0", "jump 1", "jump 1", "jump 1", "end"}},
		{{"skip 0 5", "say 2", "jump 4", "jump 2", "jump 1", "jump 3", "end"}, {"skip 0 1", "say 2", "jump 1", "jump 1", "jump 1", "jump 1", "end"}},
		// To an InsSkip, which is the end of a chain.
		{{"jump 3", "skip 2 5", "say 0", "jump 5", "jump 1", "jump 4", "end"}, {"jump 1", "skip 2 1", "say 0", "jump 1", "jump 1", "jump 1", "end"}},
		{{"skip 0 2", "say 0", "jump 0", "end"}, {"skip 0 0", "say 0", "jump 0", "end"}},
		{{"jump 2", "skip 1 3", "jump 1", "end"}, {"jump 1", "skip 1 3", "jump 1", "end"}},
		// To the end.
		{{"jump 2", "say 0", "jump 3", "end"}, {"jump 3", "say 0", "jump 3", "end"}},
		{{"skip 0 2", "say 0", "jump 4", "jump 5", "jump 3", "end"}, {"skip 0 5", "say 0", "jump 5", "jump 5", "jump 5", "end"}},
		// Where nobody comes.
		{{"jump 3", "jump 2", "jump 3", "end"}, {"jump 3", "jump 3", "jump 3", "end"}},
		{{"jump 4", "skip 0 3", "say 0", "jump 2", "end"}, {"jump 4", "skip 0 2", "say 0", "jump 2", "end"}},
		// In a monitor.
		{{"enter 0", "skip 0 3", "wait 1", "jump 4", "jump 1", "leave 0", "end"}, {"enter 0", "skip 0 1", "wait 1", "jump 1", "jump 1", "leave 0", "end"}},
		// Beside a cycle.
		{{"skip 0 2", "jump 1", "jump 3", "say 0", "end"}, {"skip 0 3", "jump 1", "jump 3", "say 0", "end"}},
	} {
		checkPassLines(t, impl.SlimJumps, c[0], c[1])
		checkKept(t, impl.SlimJumps, c[1])
	}
}

func TestSlimJumpsOfCycles(t *testing.T) {
	checkKept(t, impl.SlimJumps, [][]string{
		// An InsJump to itself.
		{"jump 0", "end"}, {"say 0", "jump 1", "end"}, {"skip 0 2", "jump 1", "end"},
		// Cycles of two and three.
		{"jump 1", "jump 0", "end"}, {"jump 2", "say 0", "jump 0", "end"}, {"say 0", "jump 2", "jump 1", "end"},
		{"jump 1", "jump 2", "jump 0", "end"}, {"jump 2", "jump 0", "jump 1", "end"}, {"jump 3", "say 0", "jump 0", "jump 2", "end"},
		// An InsSkip into a cycle of one, two and three, at each place of it.
		{"skip 0 1", "jump 1", "end"}, {"skip 0 2", "say 0", "jump 2", "end"}, {"skip 0 1", "jump 2", "jump 1", "end"}, {"skip 0 2", "jump 2", "jump 1", "end"},
		{"skip 0 1", "jump 3", "jump 1", "jump 2", "end"}, {"skip 0 2", "jump 3", "jump 1", "jump 2", "end"}, {"skip 0 3", "jump 3", "jump 1", "jump 2", "end"},
		// An InsJump that is not in the cycle to which it goes.
		{"jump 1", "jump 1", "end"}, {"jump 2", "say 0", "jump 3", "jump 2", "end"}, {"jump 3", "say 0", "jump 3", "jump 2", "end"},
		// A chain that comes into a cycle: it has no end, and nothing of it is shortened.
		{"jump 1", "jump 2", "jump 2", "end"}, {"skip 0 1", "jump 2", "jump 2", "end"}, {"jump 1", "jump 2", "jump 3", "jump 4", "jump 3", "end"},
		{"skip 1 4", "say 0", "jump 2", "jump 2", "jump 3", "end"}, {"skip 1 5", "jump 3", "jump 1", "jump 2", "jump 1", "jump 4", "end"},
	}...)
}

func TestSlimJumpsOfOtherCode(t *testing.T) {
	checkKept(t, impl.SlimJumps,
		[]string{"end"}, allOps, []string{"skip 0 0", "end"}, []string{"skip 0 1", "end"}, []string{"skip 0 1", "skip 1 0", "end"}, []string{"skip 0 2", "yield", "skip 1 1", "end"},
		[]string{"jump 1", "end"}, []string{"yield", "jump 0", "end"}, []string{"jump 2", "say 0", "end"}, mixed(60))
	// Each op at the end of a chain ends it, and no other instruction has a target: its N is no index.
	for _, line := range []string{"num 0 1", "do 0 1 1", "load 1 1", "store 1 1", "say 1", "signal 1", "yield"} {
		checkPassLines(t, impl.SlimJumps, []string{line, "jump 0", "skip 2 1", "end"}, []string{line, "jump 0", "skip 2 0", "end"})
	}
	checkPassLines(t, impl.SlimJumps, []string{"skip 1 1", "jump 0", "skip 2 1", "end"}, []string{"skip 1 0", "jump 0", "skip 2 0", "end"})
	checkPassLines(t, impl.SlimJumps, []string{"enter 1", "leave 1", "jump 0", "skip 2 2", "end"}, []string{"enter 1", "leave 1", "jump 0", "skip 2 0", "end"})
	checkPassLines(t, impl.SlimJumps, []string{"enter 1", "wait 1", "skip 0 5", "leave 1", "jump 6", "jump 1", "end"}, []string{"enter 1", "wait 1", "skip 0 1", "leave 1", "jump 6", "jump 1", "end"})
}

func TestSlimReach(t *testing.T) {
	for _, c := range []struct {
		marks string
		texts []string
	}{
		// The first index, whatever it is.
		{"x", []string{"end"}}, {"xx", []string{"say 0", "end"}}, {"xxxxxxxxxxxxxxxx", allOps},
		// Behind an InsJump and to where it goes; nothing is behind an InsEnd.
		{"x.x", []string{"jump 2", "say 0", "end"}}, {"xx", []string{"jump 1", "end"}}, {"xx.x", []string{"say 0", "jump 3", "say 0", "end"}},
		{"xxxx", []string{"jump 2", "jump 3", "jump 1", "end"}}, {"x..xx", []string{"jump 3", "say 0", "say 1", "say 2", "end"}},
		// Both ways of an InsSkip.
		{"xxx", []string{"skip 0 2", "say 0", "end"}}, {"xxxxx", []string{"skip 0 3", "say 0", "jump 4", "say 1", "end"}}, {"xx", []string{"skip 0 0", "end"}},
		{"xxx.x", []string{"skip 0 2", "jump 4", "jump 4", "say 0", "end"}}, {"xx.xx", []string{"skip 0 3", "jump 4", "say 0", "say 1", "end"}},
		{"xxxxx", []string{"jump 3", "say 0", "jump 4", "skip 0 1", "end"}},
		// A loop that nobody leaves.
		{"x.", []string{"jump 0", "end"}}, {"xx.", []string{"say 0", "jump 0", "end"}}, {"xx..", []string{"skip 0 0", "jump 0", "say 0", "end"}}, {"xx.", []string{"say 0", "jump 1", "end"}},
		{"x.xxx.", []string{"jump 3", "yield", "say 0", "say 1", "jump 2", "end"}}, {"xx..", []string{"enter 0", "jump 1", "leave 0", "end"}},
		// To where only an unreachable InsJump or InsSkip goes, and behind what is unreachable.
		{"x..x", []string{"jump 3", "jump 2", "say 0", "end"}}, {"x...x", []string{"jump 4", "skip 0 3", "say 0", "say 1", "end"}}, {"x..x", []string{"jump 3", "say 0", "jump 1", "end"}},
		{"x...", []string{"jump 0", "jump 2", "jump 1", "end"}}, {"x..x", []string{"jump 3", "jump 0", "skip 1 1", "end"}},
		// In a monitor, and where one could not be.
		{"xx.xx", []string{"enter 0", "jump 3", "leave 0", "leave 0", "end"}}, {"x.x", []string{"jump 2", "leave 1", "end"}}, {"x..xx", []string{"jump 3", "enter 0", "jump 1", "yield", "end"}},
	} {
		checkReach(t, lines(c.texts...), c.marks)
	}
}

func TestSlimDeadOfUnreachableInstructions(t *testing.T) {
	for _, c := range [][2][]string{
		// In the middle, with the targets of InsSkip and InsJump behind them, before them and both.
		{{"skip 0 4", "say 0", "jump 0", "say 1", "say 2", "end"}, {"skip 0 3", "say 0", "jump 0", "say 2", "end"}},
		{{"skip 1 5", "say 0", "jump 0", "say 1", "jump 1", "skip 2 1", "jump 2", "end"}, {"skip 1 3", "say 0", "jump 0", "skip 2 1", "jump 2", "end"}},
		{{"skip 0 2", "jump 5", "say 0", "jump 6", "yield", "say 1", "end"}, {"skip 0 2", "jump 4", "say 0", "jump 5", "say 1", "end"}},
		{{"skip 0 4", "skip 1 6", "jump 1", "yield", "say 0", "jump 7", "say 1", "end"}, {"skip 0 3", "skip 1 5", "jump 1", "say 0", "jump 6", "say 1", "end"}},
		// At the end before the last one, which stays where nobody comes to it.
		{{"say 0", "jump 0", "say 1", "end"}, {"say 0", "jump 0", "end"}},
		{{"say 0", "jump 0", "say 1", "jump 1", "skip 2 0", "end"}, {"say 0", "jump 0", "end"}},
		{{"jump 0", "jump 2", "jump 1", "end"}, {"jump 0", "end"}},
		{{"enter 1", "jump 1", "leave 1", "end"}, {"enter 1", "jump 1", "end"}},
		{{"skip 0 2", "jump 1", "jump 1", "yield", "end"}, {"skip 0 2", "jump 1", "jump 1", "end"}},
		// Of each op.
		{slices.Concat([]string{"skip 0 17", "jump 0"}, allOps[:15], []string{"say 1", "end"}), {"skip 0 2", "jump 0", "say 1", "end"}},
	} {
		checkPassLines(t, impl.SlimDead, c[0], c[1])
	}
}

func TestSlimDeadOfJumps(t *testing.T) {
	for _, c := range [][2][]string{
		// To the next index.
		{{"jump 1", "end"}, {"end"}},
		{{"say 0", "jump 2", "say 1", "end"}, {"say 0", "say 1", "end"}},
		{{"jump 1", "jump 2", "jump 3", "end"}, {"end"}},
		{{"enter 0", "jump 2", "leave 0", "end"}, {"enter 0", "leave 0", "end"}},
		// To the first one that is reachable, over others that are not.
		{{"jump 3", "say 0", "say 1", "say 2", "end"}, {"say 2", "end"}},
		{{"say 0", "jump 4", "jump 0", "skip 0 3", "yield", "jump 0", "end"}, {"say 0", "yield", "jump 0", "end"}},
		{{"jump 2", "leave 0", "say 0", "jump 5", "wait 0", "say 1", "end"}, {"say 0", "say 1", "end"}},
		// To the last one, with only unreachable ones in between.
		{{"jump 2", "say 0", "end"}, {"end"}},
		{{"say 0", "jump 4", "say 1", "jump 0", "end"}, {"say 0", "end"}},
		// The same in a loop: the first InsJump is removed, and the other one goes on to where it was.
		{{"jump 1", "jump 0", "end"}, {"jump 0", "end"}},
		{{"jump 1", "say 0", "jump 0", "end"}, {"say 0", "jump 0", "end"}},
		{{"jump 1", "jump 2", "jump 0", "end"}, {"jump 0", "end"}},
		// Two to one place: only the second one goes to what comes next.
		{{"skip 0 2", "jump 3", "jump 3", "say 0", "end"}, {"skip 0 2", "jump 2", "say 0", "end"}},
		// Targets that are removed themselves.
		{{"skip 0 2", "say 0", "jump 3", "say 1", "end"}, {"skip 0 2", "say 0", "say 1", "end"}},
		{{"skip 0 2", "say 0", "jump 3", "end"}, {"skip 0 2", "say 0", "end"}},
		{{"skip 0 2", "say 0", "jump 3", "jump 4", "say 1", "end"}, {"skip 0 2", "say 0", "say 1", "end"}},
		{{"skip 0 2", "say 0", "jump 5", "yield", "yield", "say 1", "end"}, {"skip 0 2", "say 0", "say 1", "end"}},
		{{"jump 4", "jump 2", "say 0", "jump 6", "skip 0 1", "jump 3", "end"}, {"jump 3", "say 0", "jump 5", "skip 0 1", "jump 2", "end"}},
		{{"skip 0 3", "jump 2", "jump 3", "jump 4", "say 0", "jump 1", "end"}, {"skip 0 1", "say 0", "jump 1", "end"}},
	} {
		checkPassLines(t, impl.SlimDead, c[0], c[1])
	}
}

func TestSlimDeadOfWhatStays(t *testing.T) {
	checkKept(t, impl.SlimDead, [][]string{
		{"end"}, {"say 0", "end"}, allOps, mixed(60),
		// An InsJump backwards, by one index and by more, and to itself.
		{"say 0", "jump 0", "end"}, {"say 0", "yield", "jump 1", "end"}, {"say 0", "yield", "jump 0", "end"}, {"skip 0 3", "say 0", "jump 0", "end"},
		{"jump 0", "end"}, {"say 0", "jump 1", "end"}, {"skip 0 2", "jump 1", "jump 1", "end"},
		// An InsJump forward over what is reachable, or to what is itself an InsJump.
		{"skip 0 2", "jump 3", "say 0", "end"}, {"skip 0 2", "jump 3", "say 0", "say 1", "end"}, {"jump 2", "say 0", "jump 1", "end"}, {"jump 3", "say 0", "jump 4", "jump 1", "end"},
		{"skip 0 3", "jump 4", "say 0", "skip 1 2", "end"},
		// An InsSkip to the next index is none.
		{"skip 0 1", "end"}, {"say 0", "skip 1 2", "say 1", "end"}, {"skip 2 0", "end"},
	}...)
}

func TestSlim(t *testing.T) {
	for _, c := range [][2][]string{
		{{"num 0 1", "skip 0 4", "jump 3", "jump 1", "jump 5", "say 0", "end"}, {"num 0 1", "skip 0 3", "jump 1", "say 0", "end"}},
		{{"jump 2", "say 0", "end"}, {"end"}},
		// SlimJumps has SlimDead find an InsJump to which nobody goes any more, or one that goes to what comes next.
		{{"skip 0 3", "say 0", "jump 5", "jump 4", "jump 0", "say 1", "end"}, {"skip 0 0", "say 0", "say 1", "end"}},
		{{"skip 0 2", "jump 2", "jump 3", "say 0", "end"}, {"skip 0 1", "say 0", "end"}},
		{{"jump 2", "say 0", "jump 3", "end"}, {"end"}},
		{{"jump 1", "jump 2", "jump 3", "end"}, {"end"}},
		{{"jump 3", "say 0", "jump 4", "jump 1", "end"}, {"say 0", "end"}},
		// SlimDead has itself find one in the next round: behind it, there was one more, which is in no chain that ends.
		{{"skip 0 2", "jump 3", "jump 3", "jump 3", "end"}, {"skip 0 1", "jump 1", "end"}},
		{{"skip 0 3", "skip 0 4", "jump 5", "jump 5", "jump 5", "jump 5", "end"}, {"skip 0 2", "skip 0 2", "jump 2", "end"}},
		// A cycle of neighbours becomes one InsJump to itself.
		{{"jump 1", "jump 0", "end"}, {"jump 0", "end"}},
		{{"jump 1", "jump 2", "jump 0", "end"}, {"jump 0", "end"}},
	} {
		checkPassLines(t, impl.Slim, c[0], c[1])
		checkKept(t, impl.Slim, c[1])
		checkSlimmed(t, lines(c[0]...))
	}
	checkKept(t, impl.Slim,
		[]string{"end"}, allOps, mixed(60), []string{"jump 0", "end"}, []string{"skip 0 1", "end"}, []string{"say 0", "jump 0", "end"},
		[]string{"skip 0 3", "say 0", "jump 0", "end"}, []string{"skip 0 3", "say 0", "jump 4", "say 1", "end"}, []string{"skip 0 1", "jump 1", "end"},
		[]string{"skip 0 3", "say 0", "jump 4", "jump 5", "say 1", "jump 3", "end"})
}

// TestSlimOfProcesses has the code of each statement with a body.
func TestSlimOfProcesses(t *testing.T) {
	for _, c := range []struct {
		text string
		want []string
	}{
		{"-", nil}, {"num 0 1 say 0", []string{"num 0 1", "say 0"}}, {"in 1 [ wait 0 signal 1 ] yield", []string{"enter 1", "wait 0", "signal 1", "leave 1", "yield"}},
		{"if 0 [ ] [ ]", []string{"skip 0 1"}}, {"if 0 [ say 0 ] [ ]", []string{"skip 0 2", "say 0"}}, {"if 0 [ ] [ say 0 ]", []string{"skip 0 2", "jump 3", "say 0"}},
		{"if 0 [ say 0 ] [ say 1 ] say 2", []string{"skip 0 3", "say 0", "jump 4", "say 1", "say 2"}},
		{"while 0 [ ]", []string{"skip 0 2", "jump 0"}}, {"while 0 [ while 1 [ say 1 ] ]", []string{"skip 0 4", "skip 1 0", "say 1", "jump 1"}},
		{"while 0 [ while 1 [ while 2 [ ] ] ] say 0", []string{"skip 0 4", "skip 1 0", "skip 2 1", "jump 2", "say 0"}},
		{"while 0 [ if 1 [ say 1 ] [ say 2 ] ]", []string{"skip 0 6", "skip 1 4", "say 1", "jump 0", "say 2", "jump 0"}},
		{"while 0 [ if 1 [ say 1 ] [ ] ]", []string{"skip 0 4", "skip 1 0", "say 1", "jump 0"}},
		{"if 0 [ if 1 [ say 0 ] [ say 1 ] ] [ say 2 ]", []string{"skip 0 6", "skip 1 4", "say 0", "jump 7", "say 1", "jump 7", "say 2"}},
		{"in 0 [ while 0 [ if 1 [ ] [ ] ] ]", []string{"enter 0", "skip 0 4", "skip 1 1", "jump 1", "leave 0"}},
	} {
		code := impl.CodeOf(program(t, c.text)[0])
		checkSlimmed(t, code)
		checkPass(t, impl.Slim, code, lines(append(c.want, "end")...))
	}
}

// jumpLines are that many lines: jumps to where target tells for each index, and an end.
func jumpLines(many int, target func(at int) int) []string {
	texts := make([]string, many-1)
	for at := range texts {
		texts[at] = fmt.Sprint("jump ", target(at))
	}
	return append(texts, "end")
}

func TestSlimLengths(t *testing.T) {
	for _, texts := range [][]string{{"end"}, mixed(2), mixed(59), mixed(60)} {
		checkSlimmed(t, lines(texts...))
		checkKept(t, impl.Slim, texts)
	}
	for _, texts := range [][]string{mixed(61), mixed(62), mixed(1000), jumpLines(61, func(at int) int { return at + 1 }), jumpLines(61, func(at int) int { return 0 })} {
		checkNothingSlim(t, lines(texts...))
	}
	// A chain over all indices, upwards: to the next one each time.
	up := lines(jumpLines(60, func(at int) int { return at + 1 })...)
	checkPass(t, impl.SlimJumps, up, lines(jumpLines(60, func(at int) int { return 59 })...))
	checkPass(t, impl.SlimDead, up, lines("end"))
	checkPass(t, impl.Slim, up, lines("end"))
	checkReach(t, up, strings.Repeat("x", 60))
	// Downwards, from an InsJump or an InsSkip that comes first, and that is followed by the InsJump with which it ends.
	for _, first := range []string{"jump ", "skip 1 "} {
		down := jumpLines(60, func(at int) int { return at - 1 })
		down[0], down[1] = first+"58", "jump 59"
		ended := jumpLines(60, func(at int) int { return 59 })
		ended[0] = first + "59"
		checkPassLines(t, impl.SlimJumps, down, ended)
		checkKept(t, impl.SlimDead, down)
		checkReach(t, lines(down...), strings.Repeat("x", 60))
		want := []string{"end"}
		if first == "skip 1 " {
			want = []string{"skip 1 1", "end"}
		}
		checkPassLines(t, impl.Slim, down, want)
	}
	// Cycles over all indices but the last one.
	for _, by := range []int{1, 2, 58} {
		around := jumpLines(60, func(at int) int { return (at + by) % 59 })
		checkKept(t, impl.SlimJumps, around)
		checkReach(t, lines(around...), strings.Repeat("x", 59)+".")
		checkSlimmed(t, lines(around...))
	}
	// Nothing of it is reachable but the two ends.
	far := mixed(60)
	far[0] = "jump 59"
	checkPassLines(t, impl.SlimDead, far, []string{"end"})
	checkReach(t, lines(far...), "x"+strings.Repeat(".", 58)+"x")
}

// TestSlimOfManyRounds has a cycle in which only one InsJump goes to what comes next, and another one as soon as that is
// removed, until one is left.
func TestSlimOfManyRounds(t *testing.T) {
	for many := 3; many <= 60; many++ {
		last := many - 2
		texts := jumpLines(many, func(at int) int { return min(at+2, last) })
		texts[last] = "jump 1"
		checkPassLines(t, impl.Slim, texts, []string{"jump 0", "end"})
		if rounds := checkSlimmed(t, lines(texts...)); rounds != many-1 {
			t.Errorf("%d instructions take %d rounds", many, rounds)
		}
	}
}

// checkNothingSlim makes sure that nothing comes of code that is not valid.
func checkNothingSlim(t *testing.T, c []impl.Ins) {
	t.Helper()
	checkBad(t, c)
	handed := slices.Clone(c)
	for name, pass := range codePasses {
		if got := pass(handed); len(got) != 0 {
			t.Errorf("%s of %v is %v", name, c, got)
		}
	}
	if reach := impl.SlimReach(handed); len(reach) != 0 {
		t.Errorf("of %v, %v are reachable", c, reach)
	}
	if !slices.Equal(handed, c) {
		t.Errorf("%v has been changed to %v", c, handed)
	}
}

func invalidCodes() map[string][]impl.Ins {
	return map[string][]impl.Ins{
		"no code":                         nil,
		"empty code":                      {},
		"61 instructions":                 lines(mixed(61)...),
		"61 jumps":                        lines(jumpLines(61, func(at int) int { return at + 1 })...),
		"many instructions":               lines(mixed(5000)...),
		"no end":                          lines("say 0"),
		"no end behind a jump":            lines("jump 0"),
		"an end first":                    lines("end", "say 0"),
		"two ends":                        lines("end", "end"),
		"an unreachable end":              lines("jump 2", "end", "end"),
		"a jump behind the end":           lines("jump 2", "end"),
		"a jump before the beginning":     lines("jump -1", "end"),
		"a skip behind the end":           lines("skip 0 2", "end"),
		"a skip before the beginning":     lines("skip 0 -1", "end"),
		"an unreachable jump behind it":   lines("jump 2", "jump 3", "end"),
		"an unreachable jump before it":   lines("jump 2", "jump -1", "end"),
		"an unreachable skip behind it":   lines("jump 2", "skip 0 3", "end"),
		"a far jump":                      {{Op: impl.InsJump, N: math.MaxInt}, {Op: impl.InsEnd}},
		"a far jump back":                 {{Op: impl.InsJump, N: math.MinInt}, {Op: impl.InsEnd}},
		"a jump with an A":                {{Op: impl.InsJump, A: 1, N: 1}, {Op: impl.InsEnd}},
		"a jump with a B":                 {{Op: impl.InsJump, B: 1, N: 1}, {Op: impl.InsEnd}},
		"a skip with a B":                 {{Op: impl.InsSkip, B: 1, N: 1}, {Op: impl.InsEnd}},
		"a skip of register 3":            lines("skip 3 0", "end"),
		"an unreachable yield with an N":  {{Op: impl.InsJump, N: 2}, {Op: impl.InsYield, N: 1}, {Op: impl.InsEnd}},
		"an unreachable number too large": lines("jump 2", "num 0 1000", "end"),
		"an end with an N":                {{Op: impl.InsEnd, N: 1}},
		"op 0":                            {{}, {Op: impl.InsEnd}},
		"op 14":                           {{Op: 14}, {Op: impl.InsEnd}},
		"op -1":                           {{Op: -1}, {Op: impl.InsEnd}},
		"op 0 alone":                      {{}},
		"an end in a monitor":             lines("enter 0", "end"),
		"a monitor in a monitor":          lines("enter 0", "enter 1", "leave 1", "leave 0", "end"),
		"a leave outside":                 lines("leave 0", "end"),
		"a leave of the other monitor":    lines("enter 0", "leave 1", "end"),
		"a wait outside":                  lines("wait 0", "end"),
		"a loop into a monitor":           lines("enter 0", "jump 0", "end"),
		"a monitor by one of two ways":    lines("skip 0 2", "enter 0", "say 0", "leave 0", "end"),
		"different monitors by two ways":  lines("skip 0 3", "enter 0", "jump 4", "enter 1", "leave 1", "end"),
	}
}

func TestSlimOfInvalidCode(t *testing.T) {
	for name, c := range invalidCodes() {
		checkNothingSlim(t, c)
		if t.Failed() {
			t.Fatal(name)
		}
	}
}

// TestSlimOfAllShortCode takes all code of up to five instructions of a few kinds.
func TestSlimOfAllShortCode(t *testing.T) {
	good := 0
	for n := range 5 {
		shortCodes(n+1, true, func(c []impl.Ins) {
			if !modelOk(c) {
				checkNothingSlim(t, c)
				return
			}
			checkSlimmed(t, c)
			good++
		})
	}
	if good < 25000 {
		t.Errorf("only %d are valid", good)
	}
}

// TestSlimOfAllShortJumps takes all code of up to six instructions that says something, jumps and skips.
func TestSlimOfAllShortJumps(t *testing.T) {
	most := 0
	for n := range 6 {
		parts := []impl.Ins{{Op: impl.InsSay, A: 2}}
		for at := range n + 1 {
			parts = append(parts, impl.Ins{Op: impl.InsJump, N: at}, impl.Ins{Op: impl.InsSkip, A: 1, N: at})
		}
		for choice := range sequences(n, len(parts)) {
			c := make([]impl.Ins, 0, n+1)
			for _, part := range choice {
				c = append(c, parts[part])
			}
			c = append(c, impl.Ins{Op: impl.InsEnd})
			want, rounds := modelSlim(c)
			if !slices.Equal(impl.SlimJumps(c), modelJumps(c)) || !slices.Equal(impl.SlimReach(c), modelReach(c)) || !slices.Equal(impl.SlimDead(c), modelDead(c)) || !slices.Equal(impl.Slim(c), want) {
				checkSlimmed(t, c)
			}
			most = max(most, rounds)
		}
	}
	if most != 5 {
		t.Errorf("%d rounds", most)
	}
}

// code makes valid code of that many instructions that comes from no program: it gives each index a monitor or none
// first, and then goes from any index to any other with the right one.
func (m maker) code(many int) []impl.Ins {
	rooms := slices.Repeat(ints(-1), many)
	for at := 1; at < many-1; at++ {
		rooms[at] = rooms[at-1]
		if m.IntN(4) == 0 {
			rooms[at] = m.IntN(3) - 1
		}
	}
	c := make([]impl.Ins, many)
	for at := range many - 1 {
		c[at] = m.ins(at, rooms)
	}
	c[many-1] = impl.Ins{Op: impl.InsEnd}
	return c
}

// ins makes the instruction at that index.
func (m maker) ins(at int, rooms []int) impl.Ins {
	now, behind := rooms[at], rooms[at+1]
	target := m.IntN(len(rooms))
	for rooms[target] != now {
		target = m.IntN(len(rooms))
	}
	jump := impl.Ins{Op: impl.InsJump, N: target}
	switch {
	case m.IntN(5) < 2:
		return jump
	case now < 0 && behind >= 0:
		return impl.Ins{Op: impl.InsEnter, A: behind}
	case now >= 0 && behind < 0:
		return impl.Ins{Op: impl.InsLeave, A: now}
	case now != behind:
		return jump
	case m.IntN(3) == 0:
		return impl.Ins{Op: impl.InsSkip, A: m.IntN(3), N: target}
	case now >= 0 && m.IntN(4) == 0:
		return impl.Ins{Op: impl.InsWait, A: m.IntN(2)}
	}
	return lines([]string{"num 0 1", "num 1 0", "num 2 -1", "do 0 1 1", "do 1 2 2", "load 0 0", "store 0 1", "load 1 2", "store 2 0", "say 0", "say 1", "signal 0", "signal 1", "yield"}[m.IntN(14)])[0]
}

func TestSlimOfMadeCode(t *testing.T) {
	m := maker{rand.New(rand.NewPCG(9, 14))}
	seen := map[string]int{}
	for i := range 9000 {
		c := m.code(1 + i%60)
		checkGood(t, c, modelText(c))
		rounds := checkSlimmed(t, c)
		seen[fmt.Sprint("rounds: ", min(rounds, 3))]++
		reach := modelReach(c)
		seen[fmt.Sprint("reachable end: ", reach[len(c)-1])]++
		seen[fmt.Sprint("unreachable: ", slices.Contains(reach, false))]++
		seen[fmt.Sprint("cycle: ", slices.Contains(modelLands(c), -1))]++
	}
	checkHappened(t, seen, "rounds: 1", "rounds: 2", "rounds: 3", "reachable end: true", "reachable end: false", "unreachable: true", "unreachable: false", "cycle: true", "cycle: false")
}

func TestSlimOfMadeProcesses(t *testing.T) {
	m := maker{rand.New(rand.NewPCG(99, 14))}
	shorter := 0
	for range 5000 {
		c := impl.CodeOf(m.process())
		checkSlimmed(t, c)
		shorter += oneIf(len(impl.Slim(c)) < len(c))
	}
	if shorter < 250 {
		t.Errorf("only %d become shorter", shorter)
	}
}

func codesOf(texts ...[]string) [][]impl.Ins {
	var codes [][]impl.Ins
	for _, one := range texts {
		codes = append(codes, lines(one...))
	}
	return codes
}

// eachCode is what a pass makes of the code of each process.
func eachCode(codes [][]impl.Ins, pass codePass) [][]impl.Ins {
	var out [][]impl.Ins
	for _, c := range codes {
		out = append(out, pass(c))
	}
	return out
}

// checkSlimTrace executes an instruction more each time; p is the program from which the code comes, or nil.
func checkSlimTrace(t *testing.T, p [][]impl.Stmt, codes [][]impl.Ins, gaps []int) ([]impl.Cpu, int) {
	t.Helper()
	run := func(fuel int) (impl.Cpu, int) { return impl.SlimRun(codes, gaps, fuel) }
	return checkTraceOf(t, p, codes, gaps, run)
}

func TestSlimRunInvalidArguments(t *testing.T) {
	good := codesOf([]string{"say 0", "end"}, []string{"enter 0", "wait 0", "leave 0", "end"}, []string{"jump 0", "end"}, []string{"end"})
	check := func(name string, codes [][]impl.Ins, gaps []int, fuel int) {
		t.Helper()
		c, how := impl.SlimRun(codes, gaps, fuel)
		if how != impl.CpuForm {
			t.Errorf("%s: the code is %d", name, how)
		}
		checkCpu(t, c, impl.Cpu{})
	}
	for _, fuel := range []int{0, 1, 90, -1, 91} {
		check("no codes", nil, ints(1), fuel)
		check("empty codes", [][]impl.Ins{}, ints(1), fuel)
		check("four codes", good, ints(1), fuel)
		check("many codes", slices.Repeat(good, 1000), ints(1), fuel)
		for name, c := range invalidCodes() {
			check(name, [][]impl.Ins{c}, ints(1), fuel)
			for at := range 3 {
				codes := slices.Clone(good[:3])
				codes[at] = c
				check(fmt.Sprint(name, " at ", at), codes, ints(1), fuel)
			}
			check(name, [][]impl.Ins{c, good[0]}, nil, fuel)
		}
		for name, gaps := range invalidGaps() {
			check(name, good[:3], gaps, fuel)
			check(name, nil, gaps, fuel)
		}
	}
	for _, fuel := range []int{-1, 91, 92, -90, 1000, math.MinInt, math.MaxInt, 1 << 32, -1 << 32} {
		for many := range 3 {
			check(fmt.Sprint("fuel ", fuel), good[:many+1], ints(12, 1), fuel)
		}
	}
}

func TestSlimRunOfMostAndLeast(t *testing.T) {
	most := lines(mixed(60)...)
	for many := 1; many <= 3; many++ {
		codes := slices.Repeat([][]impl.Ins{most}, many)
		for _, gaps := range [][]int{{1}, {12}, slices.Repeat(ints(1), 20), slices.Repeat(ints(12), 20)} {
			if c, how := impl.SlimRun(codes, gaps, 0); how != impl.CpuFuel {
				t.Errorf("without fuel, the code is %d", how)
			} else {
				checkCpu(t, c, idle(many, gaps[0]))
			}
			_, how := checkSlimTrace(t, nil, codes, gaps)
			if want := []int{impl.CpuDone, impl.CpuFuel}[oneIf(many > 1)]; how != want {
				t.Errorf("%d processes: the code is %d", many, how)
			}
		}
	}
	// The least code, and fuel that is just enough.
	ended := ctx(0, impl.CtxEnded, -1)
	c, how := impl.SlimRun(codesOf([]string{"end"}, []string{"end"}, []string{"end"}), ints(2, 5), 3)
	if how != impl.CpuDone {
		t.Error(how)
	}
	checkCpu(t, c, behind(ints(0, 1, 2), nil, nil, 1, 5, ended, ended, ended))
	c, how = impl.SlimRun(codesOf(mixed(60)), ints(12), 60)
	want := behind(fine(60), fine(59), nil, 0, 12, ctx(59, impl.CtxEnded, -1))
	want.Ctxs[0].Regs[0] = 58
	if how != impl.CpuDone {
		t.Error(how)
	}
	checkCpu(t, c, want)
	if _, how = impl.SlimRun(codesOf(mixed(60)), ints(12), 59); how != impl.CpuFuel {
		t.Error(how)
	}
	// Jumps use up fuel, and are no steps.
	c, how = impl.SlimRun(codesOf([]string{"jump 0", "end"}, []string{"jump 1", "jump 0", "end"}), ints(2, 3), 90)
	if how != impl.CpuFuel || len(c.Ran) != 90 || len(c.Picks) != 0 {
		t.Error(how, shownCpu(c))
	}
}

// TestSlimRunOfCodeFromNoProgram has code that no process is compiled to.
func TestSlimRunOfCodeFromNoProgram(t *testing.T) {
	// Into one monitor on two ways, and out of it on two ways.
	both := []string{"skip 0 3", "enter 0", "jump 4", "enter 0", "skip 0 7", "leave 0", "jump 8", "leave 0", "end"}
	trace, how := checkSlimTrace(t, nil, codesOf(both), ints(12))
	checkCpu(t, trace[2], queues(behind(fine(2), fine(2), ints(0), 0, 10, ctx(4, 0, 0)), ints(1, 0), nobody, nobody))
	checkCpu(t, trace[5], behind(fine(5), fine(4), nil, 0, 12, ctx(8, impl.CtxEnded, -1)))
	if how != impl.CpuDone {
		t.Error(how)
	}
	trace, how = checkSlimTrace(t, nil, codesOf(append([]string{"num 0 1"}, moveLines(1, both)...)), ints(12))
	want := behind(fine(8), fine(5), nil, 0, 12, ctx(9, impl.CtxEnded, -1))
	want.Ctxs[0].Regs[0] = 1
	checkCpu(t, trace[8], want)
	if how != impl.CpuDone {
		t.Error(how)
	}
	// From outside, an InsEnter is where the other process waits in line; it gets in on the other way.
	twice := codesOf(both, append([]string{"num 0 1"}, moveLines(1, both)...))
	trace, how = checkSlimTrace(t, nil, twice, ints(2, 3))
	inLine := queues(behind(ints(0, 0, 1, 1, 1), ints(0, 0, 1, 1), ints(0), 0, 2, ctx(4, 0, 0), ctx(2, impl.CtxLine, -1)), ints(1, 0), [][]int{{1}, nil}, nobody)
	inLine.Ctxs[1].Regs[0] = 1
	checkCpu(t, trace[5], inLine)
	letIn := queues(behind(ints(0, 0, 1, 1, 1, 0, 0), ints(0, 0, 1, 1, 0, 0, 1), ints(1, 0), 1, 3, ctx(8, 0, -1), ctx(3, 0, 0)), ints(2, 0), nobody, nobody)
	letIn.Ctxs[1].Regs[0] = 1
	checkCpu(t, trace[7], letIn)
	if how != impl.CpuDone {
		t.Error(how)
	}
	// A loop into the middle of a monitor, which is left on the way to it, and one in a monitor that nobody leaves.
	for _, texts := range [][]string{
		{"enter 1", "leave 1", "enter 1", "jump 1", "end"},
		{"jump 2", "leave 0", "enter 0", "wait 0", "jump 1", "end"},
		{"enter 0", "jump 1", "leave 1", "end"}, {"enter 0", "signal 0", "skip 0 1", "leave 0", "end"},
		{"skip 1 4", "enter 0", "num 1 1", "leave 0", "signal 0", "jump 0", "end"},
		{"yield", "jump 0", "wait 1", "end"},
	} {
		for _, gaps := range [][]int{{1}, {2}, {3, 1}, {12}} {
			for many := 1; many <= 3; many++ {
				checkSlimTrace(t, nil, slices.Repeat(codesOf(texts), many), gaps)
			}
			checkSlimTrace(t, nil, append(codesOf(texts), twice...), gaps)
		}
	}
}

// moveLines moves the targets in lines, and the lines behind that many others.
func moveLines(by int, texts []string) []string {
	return strings.Split(strings.TrimSuffix(modelText(moved(lines(texts...), by)), "\n"), "\n")
}

// TestSlimRunOfMadeCode executes code that comes from no program, and what becomes of it.
func TestSlimRunOfMadeCode(t *testing.T) {
	m := maker{rand.New(rand.NewPCG(999, 14))}
	hows := map[string]int{}
	for range 250 {
		var codes [][]impl.Ins
		for range 1 + m.IntN(3) {
			codes = append(codes, m.code(1+m.IntN(60)))
		}
		gaps := m.gaps()
		_, how := checkSlimTrace(t, nil, codes, gaps)
		_, again := checkSlimTrace(t, nil, eachCode(codes, impl.Slim), gaps)
		hows[fmt.Sprint("before: ", how)]++
		hows[fmt.Sprint("behind: ", again)]++
	}
	checkHappened(t, hows, "before: 0", "before: 1", "before: 2", "behind: 0", "behind: 1", "behind: 2")
}

// seenByAll is what a configuration has, too, for a processor whose processes have no program.
func seenByAll(c impl.Cpu) string {
	out := fmt.Sprint(c.Cells, c.Rooms, c.Signs, c.Said)
	for _, one := range c.Ctxs {
		out += fmt.Sprint(one.Regs, one.On, one.Room)
	}
	return out
}

// TestStepsOfOneProcess has a process alone do the same before and behind each pass, as often as it takes a step.
func TestStepsOfOneProcess(t *testing.T) {
	m := maker{rand.New(rand.NewPCG(9999, 14))}
	sooner := 0
	for range 500 {
		c := m.code(1 + m.IntN(60))
		if m.IntN(3) == 0 {
			c = impl.CodeOf(m.process())
		}
		behindSteps := map[int]string{}
		for fuel := range 91 {
			cpu, _ := impl.SlimRun([][]impl.Ins{c}, ints(12), fuel)
			behindSteps[len(cpu.Picks)] = seenByAll(cpu)
		}
		last, how := impl.SlimRun([][]impl.Ins{c}, ints(12), 90)
		for name, pass := range codePasses {
			for fuel := range 91 {
				cpu, again := impl.SlimRun([][]impl.Ins{pass(c)}, ints(12), fuel)
				if want, known := behindSteps[len(cpu.Picks)]; known && seenByAll(cpu) != want {
					t.Fatalf("%s: %q does something else after %d steps", name, modelText(c), len(cpu.Picks))
				}
				if fuel == 90 && how != impl.CpuFuel && (again != how || len(cpu.Picks) != len(last.Picks) || len(cpu.Ran) > len(last.Ran)) {
					t.Fatalf("%s: %q ends with %d and not %d", name, modelText(c), again, how)
				}
				sooner += oneIf(fuel == 90 && len(cpu.Ran) < len(last.Ran))
			}
		}
	}
	if sooner < 50 {
		t.Errorf("only %d end sooner", sooner)
	}
}

// checkCompiled makes sure that SlimRun of the code as it was compiled does what CpuRun does.
func checkCompiled(t *testing.T, p [][]impl.Stmt, gaps []int) {
	t.Helper()
	var codes [][]impl.Ins
	for _, process := range p {
		codes = append(codes, impl.CodeOf(process))
	}
	for fuel := range 91 {
		c, how := impl.CpuRun(p, gaps, fuel)
		same, code := impl.SlimRun(codes, gaps, fuel)
		if code != how {
			t.Errorf("%v, gaps %v, fuel %d: the code is %d, not %d", p, gaps, fuel, code, how)
		}
		checkCpu(t, same, c)
	}
}

// checkPromise holds promise 10 for the passes, each alone and where only one of the processes has its code changed.
func checkPromise(t *testing.T, p [][]impl.Stmt, gaps []int) int {
	t.Helper()
	checkCompiled(t, p, gaps)
	codes := modelCodes(p)
	slim := eachCode(codes, impl.Slim)
	checkSlimTrace(t, p, codes, gaps)
	checkSlimTrace(t, p, eachCode(codes, impl.SlimJumps), gaps)
	checkSlimTrace(t, p, eachCode(codes, impl.SlimDead), gaps)
	mixed := slices.Clone(codes)
	mixed[len(p)-1] = slim[len(p)-1]
	checkSlimTrace(t, p, mixed, gaps)
	_, how := checkSlimTrace(t, p, slim, gaps)
	return how
}

// jumpy are programs whose code has jumps to jumps, or to what comes next.
var jumpy = [][]string{
	{"num 0 2 num 1 1 while 0 [ if 1 [ say 0 ] [ ] sub 0 1 if 0 [ ] [ ] ] say 1"}, {"num 0 1 num 1 1 while 0 [ while 1 [ num 1 0 say 0 ] num 0 0 ]"}, {"if 0 [ if 1 [ ] [ ] ] [ if 2 [ say 0 ] [ ] ]"},
	{"num 0 1 while 0 [ in 0 [ wait 0 if 1 [ ] [ ] ] say 0 ]", "num 0 1 while 0 [ in 0 [ if 0 [ ] [ ] signal 0 ] ]"}, {"if 0 [ yield ] [ ] in 0 [ if 0 [ ] [ wait 1 ] ] say 0", "in 0 [ if 1 [ ] [ signal 1 ] ] if 0 [ say 1 ] [ ]"},
	{"num 0 1 while 0 [ load 0 0 if 0 [ ] [ num 0 1 ] ] say 0", "num 0 1 while 0 [ if 0 [ num 1 7 store 0 1 ] [ ] num 0 0 ]"},
	{"in 0 [ wait 0 if 0 [ ] [ ] ] say 0", "in 0 [ wait 0 ] if 0 [ ] [ say 1 ]", "num 0 2 num 1 1 while 0 [ if 0 [ signal 0 ] [ ] sub 0 1 ]"},
	{"num 0 1 while 0 [ while 0 [ in 1 [ ] num 0 0 ] ]", "in 1 [ num 1 1 while 1 [ yield num 1 0 if 1 [ ] [ ] ] ]", "if 0 [ ] [ ] in 1 [ say 0 ] if 0 [ ] [ ]"},
	{forever, "num 0 1 while 0 [ if 0 [ ] [ ] ]", "if 0 [ say 0 ] [ ] say 1"},
}

// TestSlimUnderSeveralGaps tries each gap alone, and some others.
func TestSlimUnderSeveralGaps(t *testing.T) {
	hows := map[int]int{}
	for _, texts := range slices.Concat(jumpy, lively, few) {
		p := program(t, texts...)
		for gap := 1; gap <= 12; gap++ {
			hows[checkPromise(t, p, ints(gap))]++
		}
		for _, gaps := range [][]int{{1, 2}, {3, 1, 2}, {2, 2, 5, 1}, {12, 1}, slices.Repeat(ints(1, 3), 10)} {
			hows[checkPromise(t, p, gaps)]++
		}
	}
	if hows[impl.CpuDone] == 0 || hows[impl.CpuStuck] == 0 || hows[impl.CpuFuel] == 0 {
		t.Error(hows)
	}
}

// TestSlimUnderAllShortGaps tries every three gaps of up to four instructions.
func TestSlimUnderAllShortGaps(t *testing.T) {
	for _, texts := range jumpy {
		p := program(t, texts...)
		slim := eachCode(modelCodes(p), impl.Slim)
		for i := range 64 {
			checkSlimTrace(t, p, slim, ints(1+i%4, 1+i/4%4, 1+i/16))
		}
	}
}

func TestSlimOfMadePrograms(t *testing.T) {
	m := maker{rand.New(rand.NewPCG(99999, 14))}
	hows := map[string]int{}
	for range 300 {
		var p [][]impl.Stmt
		for range 1 + m.IntN(3) {
			p = append(p, m.process())
		}
		how := checkPromise(t, p, m.gaps())
		hows[fmt.Sprint(len(p), " processes: ", how)]++
		codes := modelCodes(p)
		for who, c := range eachCode(codes, impl.Slim) {
			hows["shorter"] += oneIf(len(c) < len(codes[who]))
		}
	}
	checkHappened(t, hows, "shorter", "1 processes: 0", "1 processes: 1", "1 processes: 2", "2 processes: 0", "2 processes: 1", "2 processes: 2", "3 processes: 0", "3 processes: 1", "3 processes: 2")
}

// TestSlimEndsAreReachable holds promise 9 for optimized code, too.
func TestSlimEndsAreReachable(t *testing.T) {
	for _, texts := range few {
		p := program(t, texts...)
		ends, _ := impl.AllEnds(p)
		slim := eachCode(modelCodes(p), impl.Slim)
		for i := range 144 {
			c, how := impl.SlimRun(slim, ints(1+i%12, 1+i/12), 90)
			w, _ := impl.MeanPlay(p, c.Picks)
			if how != impl.CpuFuel {
				checkAmong(t, w, ends)
			}
		}
	}
}

// tangledCode is code from which every pass removes or changes something, and the Slim of which still has jumps.
func tangledCode() []impl.Ins {
	return lines("num 0 1", "skip 0 4", "jump 3", "jump 1", "jump 5", "enter 0", "skip 1 8", "jump 9", "jump 9", "say 0", "leave 0", "jump 0", "end")
}

func TestSlimSharesNoMemory(t *testing.T) {
	code, still := tangledCode(), lines("say 0", "skip 0 0", "jump 0", "end")
	var all []any
	for _, c := range [][]impl.Ins{code, still, lines("end"), lines(mixed(60)...)} {
		c = roomy(c, impl.Ins{Op: 7, A: 7, B: 7, N: 7})
		all = append(all, places(c)...)
		for _, pass := range codePasses {
			all = slices.Concat(all, places(pass(c)), places(pass(c)))
		}
		all = slices.Concat(all, places(impl.SlimReach(c)), places(impl.SlimReach(c)))
	}
	// All processes may have the same code.
	codes := [][]impl.Ins{still, still, still}
	gaps := ints(2, 5, 2)
	all = slices.Concat(all, places(still), places(codes), places(gaps))
	for fuel := range 91 {
		first, _ := impl.SlimRun(codes, gaps, fuel)
		second, _ := impl.SlimRun(codes, gaps, fuel)
		all = slices.Concat(all, cpuPlaces(first), cpuPlaces(second))
	}
	checkApart(t, all)
}

// A result stays as it is when an argument or another result is changed behind the call.
func TestSlimResultsStay(t *testing.T) {
	for name, pass := range codePasses {
		code := tangledCode()
		first, second := pass(code), pass(code)
		want := modelText(first)
		clear(second[:cap(second)])
		clear(code)
		if modelText(first) != want {
			t.Errorf("%s: a result has changed", name)
		}
	}
	code := tangledCode()
	reach, other := impl.SlimReach(code), impl.SlimReach(code)
	want := fmt.Sprint(reach)
	clear(other[:cap(other)])
	clear(code)
	if fmt.Sprint(reach) != want {
		t.Error("SlimReach: a result has changed")
	}
	codes, gaps := [][]impl.Ins{tangledCode(), impl.Slim(tangledCode())}, ints(2, 3)
	cpu, _ := impl.SlimRun(codes, gaps, 40)
	same, _ := impl.SlimRun(codes, gaps, 40)
	looks := shownCpu(cpu)
	for _, ctx := range same.Ctxs {
		clear(ctx.Regs)
	}
	for _, queue := range slices.Concat(same.Lines, same.Signs, [][]int{same.Cells, same.Rooms, same.Ready, same.Ran, same.Picks}) {
		clear(queue[:cap(queue)])
	}
	clear(codes[0])
	clear(codes[1])
	clear(codes)
	clear(gaps)
	if shownCpu(cpu) != looks {
		t.Error("SlimRun: a result has changed")
	}
}

// TestSlimChangesNoArgument hands slices with something behind their ends.
func TestSlimChangesNoArgument(t *testing.T) {
	behindEnd := impl.Ins{Op: 7, A: 7, B: 7, N: 7}
	good := roomy(tangledCode(), behindEnd)
	bad := roomy(lines("enter 0", "skip 0 3", "leave 0", "end"), behindEnd)
	codes := roomy([][]impl.Ins{good, roomy(lines("jump 1", "yield", "jump 0", "end"), behindEnd)}, bad)
	gaps := roomy(ints(2, 5), 55)
	look := func() string {
		return fmt.Sprint(good[:cap(good)], bad[:cap(bad)], codes[:cap(codes)], codes[1][:cap(codes[1])], gaps[:cap(gaps)])
	}
	before := look()
	for range 2 {
		for _, c := range [][]impl.Ins{good, bad, codes[1]} {
			for _, pass := range codePasses {
				pass(c)
			}
			impl.SlimReach(c)
		}
		for fuel := range 91 {
			impl.SlimRun(codes, gaps, fuel)
			impl.SlimRun(codes[:cap(codes)], gaps, fuel)
		}
	}
	if after := look(); after != before {
		t.Errorf("%s has become %s", before, after)
	}
}

// Whatever runs within a call has ended when it returns, also where fuel runs out.
func TestSlimLeavesNothingRunning(t *testing.T) {
	codes := [][]impl.Ins{tangledCode(), lines("jump 0", "end"), lines("enter 0", "wait 0", "leave 0", "end")}
	before := runtime.NumGoroutine()
	for fuel := range 91 {
		impl.SlimRun(codes, ints(2, 5), fuel)
		impl.SlimRun(codes[2:], ints(2, 5), fuel)
	}
	// One may still be between its last word to the others and its end.
	for range 100 {
		if runtime.NumGoroutine() <= before {
			return
		}
		time.Sleep(10 * time.Millisecond)
	}
	t.Errorf("%d goroutines have become %d", before, runtime.NumGoroutine())
}

// Calls at the same time that are handed the same code do not disturb each other.
func TestSlimAtTheSameTime(t *testing.T) {
	codes := slices.Repeat([][]impl.Ins{tangledCode()}, 3)
	look := func(fuel int) string {
		c, how := impl.SlimRun(codes, ints(2, 5, 1), fuel)
		return fmt.Sprint(how, shownCpu(c), impl.SlimJumps(codes[0]), impl.SlimReach(codes[0]), impl.SlimDead(codes[0]), impl.Slim(codes[0]))
	}
	want := map[int]string{}
	for fuel := range 91 {
		want[fuel] = look(fuel)
	}
	var group sync.WaitGroup
	for range 16 {
		group.Go(func() {
			for fuel := range 91 {
				if got := look(fuel); got != want[fuel] {
					t.Errorf("fuel %d: %s, not %s", fuel, got, want[fuel])
				}
			}
		})
	}
	group.Wait()
}
