package tests

import (
	"fmt"
	"math"
	"math/rand/v2"
	"slices"
	"strings"
	"testing"

	"loop.example/changeringer/impl"
)

// These tests hold promise 4: compiled code is valid: no process leaves a monitor that it is not inside of, or ends
// inside of one.

func TestCodeLimitAndOps(t *testing.T) {
	ops := [...]int{impl.InsNum, impl.InsDo, impl.InsLoad, impl.InsStore, impl.InsSay, impl.InsSkip, impl.InsJump, impl.InsEnter, impl.InsLeave, impl.InsWait, impl.InsSignal, impl.InsYield, impl.InsEnd}
	if ops != [...]int{1, 2, 3, 4, 5, 6, 7, 8, 9, 10, 11, 12, 13} || impl.CodeMost != 60 {
		t.Error(ops, impl.CodeMost)
	}
}

// checkGood makes sure that code is valid, and that its text is that and is read back.
func checkGood(t *testing.T, c []impl.Ins, text string) {
	t.Helper()
	if !impl.CodeOk(c) {
		t.Errorf("%q is not valid", text)
	}
	if got := impl.CodeText(c); got != text {
		t.Errorf("the text is %q, not %q", got, text)
	}
	back, ok := impl.CodeRead(text)
	if !ok || !slices.Equal(back, c) || !impl.CodeSame(back, c) {
		t.Errorf("%q is read as %v, %v", text, back, ok)
	}
}

// checkBad makes sure that code is not valid, for each function that takes code.
func checkBad(t *testing.T, c []impl.Ins) {
	t.Helper()
	if impl.CodeOk(c) {
		t.Errorf("%v is valid", c)
	}
	if text := impl.CodeText(c); text != "" {
		t.Errorf("%v has the text %q", c, text)
	}
	if !impl.CodeSame(c, slices.Clone(c)) {
		t.Errorf("%v is not the same as itself", c)
	}
}

// checkBadLines also makes sure that the lines are not read.
func checkBadLines(t *testing.T, texts ...string) {
	t.Helper()
	checkBad(t, lines(texts...))
	checkUnreadCode(t, strings.Join(texts, "\n")+"\n")
}

func checkGoodLines(t *testing.T, texts ...string) {
	t.Helper()
	checkGood(t, lines(texts...), strings.Join(texts, "\n")+"\n")
}

func checkUnreadCode(t *testing.T, texts ...string) {
	t.Helper()
	for _, text := range texts {
		if c, ok := impl.CodeRead(text); ok || len(c) != 0 {
			t.Errorf("%q is read as %v, %v", text, c, ok)
		}
	}
}

// checkCode compares the code of a process with these lines and an end.
func checkCode(t *testing.T, process []impl.Stmt, texts ...string) {
	t.Helper()
	texts = append(slices.Clone(texts), "end")
	c := impl.CodeOf(process)
	if !slices.Equal(c, lines(texts...)) {
		t.Errorf("the code of %q is %q, not %q", written(process), modelText(c), texts)
	}
	checkGood(t, c, strings.Join(texts, "\n")+"\n")
}

var plainLines = []struct {
	stmt impl.Stmt
	line string
}{
	{num(0, 0), "num 0 0"}, {num(2, 999), "num 2 999"}, {num(1, -999), "num 1 -999"}, {num(0, 5), "num 0 5"},
	{do(impl.NumAdd, 0, 2), "do 0 2 1"}, {do(impl.NumSub, 2, 0), "do 2 0 2"}, {do(impl.NumMul, 1, 1), "do 1 1 3"},
	{do(impl.NumLess, 0, 1), "do 0 1 4"}, {do(impl.NumSame, 2, 2), "do 2 2 5"},
	{load(0, 2), "load 0 2"}, {load(2, 0), "load 2 0"}, {store(0, 2), "store 0 2"}, {store(2, 0), "store 2 0"},
	{say(0), "say 0"}, {say(2), "say 2"}, {signal(0), "signal 0"}, {signal(1), "signal 1"}, {yields(), "yield"},
}

func TestCodeOfPlainKinds(t *testing.T) {
	for _, c := range plainLines {
		s, line := c.stmt, c.line
		checkCode(t, list(s), line)
		checkCode(t, list(yields(), s, s), "yield", line, line)
		checkCode(t, list(choose(1, list(s), nil)), "skip 1 3", line, "jump 3")
		checkCode(t, list(choose(1, nil, list(s))), "skip 1 2", "jump 3", line)
		checkCode(t, list(choose(1, list(s, s), list(s))), "skip 1 4", line, line, "jump 5", line)
		checkCode(t, list(while(2, s)), "skip 2 3", line, "jump 0")
		checkCode(t, list(in(1, s)), "enter 1", line, "leave 1")
		checkCode(t, list(in(0, while(0, s, s))), "enter 0", "skip 0 5", line, line, "jump 1", "leave 0")
	}
}

func TestCodeOfWait(t *testing.T) {
	for a, line := range []string{"wait 0", "wait 1"} {
		checkCode(t, list(in(0, wait(a))), "enter 0", line, "leave 0")
		checkCode(t, list(in(1, wait(a), wait(a))), "enter 1", line, line, "leave 1")
		checkCode(t, list(in(0, while(1, wait(a)))), "enter 0", "skip 1 4", line, "jump 1", "leave 0")
		checkCode(t, list(in(0, choose(1, list(wait(a)), list(wait(a))))), "enter 0", "skip 1 4", line, "jump 5", line, "leave 0")
		checkCode(t, list(while(1, in(0, wait(a)))), "skip 1 5", "enter 0", line, "leave 0", "jump 0")
	}
}

func TestCodeOfNothing(t *testing.T) {
	checkCode(t, nil)
	checkCode(t, list())
	checkCode(t, list(choose(0, nil, nil)), "skip 0 2", "jump 2")
	checkCode(t, list(choose(2, list(), list())), "skip 2 2", "jump 2")
	checkCode(t, list(choose(0, nil, nil), say(0)), "skip 0 2", "jump 2", "say 0")
	checkCode(t, list(while(1)), "skip 1 2", "jump 0")
	checkCode(t, list(say(0), while(1), say(0)), "say 0", "skip 1 3", "jump 1", "say 0")
	checkCode(t, list(in(1)), "enter 1", "leave 1")
	checkCode(t, list(in(0), in(1)), "enter 0", "leave 0", "enter 1", "leave 1")
	checkCode(t, list(while(0, choose(1, nil, nil))), "skip 0 4", "skip 1 3", "jump 3", "jump 0")
	checkCode(t, list(choose(1, list(while(0)), list(while(2)))), "skip 1 4", "skip 0 3", "jump 1", "jump 6", "skip 2 6", "jump 4")
	checkCode(t, list(in(0, choose(1, nil, nil), while(1))), "enter 0", "skip 1 3", "jump 3", "skip 1 5", "jump 3", "leave 0")
}

func TestCodeOfNestedKinds(t *testing.T) {
	checkCode(t, list(while(0, while(1, say(2)), say(1)), say(0)),
		"skip 0 6", "skip 1 4", "say 2", "jump 1", "say 1", "jump 0", "say 0")
	checkCode(t, list(choose(0, list(choose(1, list(say(0)), list(say(1)))), list(choose(2, list(say(2)), nil)))),
		"skip 0 6", "skip 1 4", "say 0", "jump 5", "say 1", "jump 9", "skip 2 9", "say 2", "jump 9")
	checkCode(t, list(choose(0, nil, list(choose(1, nil, list(choose(2, nil, nil)))))),
		"skip 0 2", "jump 6", "skip 1 4", "jump 6", "skip 2 6", "jump 6")
	checkCode(t, list(choose(0, list(while(1, say(1))), list(while(2, say(2), yields())))),
		"skip 0 5", "skip 1 4", "say 1", "jump 1", "jump 9", "skip 2 9", "say 2", "yield", "jump 5")
	checkCode(t, list(while(0, choose(1, list(say(1)), list(say(2))))),
		"skip 0 6", "skip 1 4", "say 1", "jump 5", "say 2", "jump 0")
	checkCode(t, list(yields(), in(1, choose(0, list(while(1)), list(wait(1))), while(2, choose(0, nil, nil))), say(0)),
		"yield", "enter 1", "skip 0 6", "skip 1 5", "jump 3", "jump 7", "wait 1", "skip 2 11", "skip 0 10", "jump 10", "jump 7", "leave 1", "say 0")
	checkCode(t, list(while(0, in(0, while(1)), in(1, yields()))),
		"skip 0 9", "enter 0", "skip 1 4", "jump 2", "leave 0", "enter 1", "yield", "leave 1", "jump 0")
	checkCode(t, list(choose(0, list(in(0, yields())), list(in(1)))),
		"skip 0 5", "enter 0", "yield", "leave 0", "jump 7", "enter 1", "leave 1")
}

// The document's limits of a process keep its code far below CodeMost.
func TestCodeOfFullProcesses(t *testing.T) {
	full := repeat(choose(0, nil, nil), 14)
	if c := impl.CodeOf(full); len(c) != 29 || !slices.Equal(c, append(modelCode(full), impl.Ins{Op: 13})) || !impl.CodeOk(c) {
		t.Error(c)
	}
	if c := impl.CodeOf(repeat(num(2, -999), 14)); len(c) != 15 || !impl.CodeOk(c) {
		t.Error(c)
	}
}

func TestCodeOfInvalidProcesses(t *testing.T) {
	for name, p := range invalidPrograms() {
		for _, process := range p {
			if c := impl.CodeOf(process); len(c) != 0 && !impl.StmtsOk(process) {
				t.Errorf("%s: %v", name, c)
			}
		}
	}
	for _, process := range [][]impl.Stmt{
		{{}}, list(wait(0)), list(leave(0)), list(say(3)), list(in(0, in(1))), list(in(2)), repeat(yields(), 15), list(yields(), num(0, 1000)),
		list(do(6, 0, 0)), list(do(0, 0, 0)), list(while(0, while(0, while(0, yields())))), {{Kind: 13}}, {{Kind: -1}}, {{Kind: math.MaxInt}},
		ring(0), ring(0, 1, 2), {{Kind: impl.StmtYield, Body: list(yields())}}, {{Kind: impl.StmtSay, N: 1}},
	} {
		if c := impl.CodeOf(process); len(c) != 0 {
			t.Errorf("%v", c)
		}
	}
}

func TestLineOfEachOp(t *testing.T) {
	checkGoodLines(t,
		"num 0 -999", "do 2 1 5", "load 2 1", "store 1 2", "say 2", "skip 2 9", "jump 6", "enter 0", "leave 1", "enter 1",
		"wait 0", "signal 1", "yield", "leave 1", "end")
	checkGoodLines(t, "end")
	checkGoodLines(t, "num 2 999", "end")
	checkGoodLines(t, "num 0 0", "num 1 -1", "num 1 10", "num 1 100", "end")
	for op := 1; op <= 5; op++ {
		checkGoodLines(t, fmt.Sprint("do 1 2 ", op), "end")
	}
}

// mixed is a list of lines that are valid one after the other, of that many with the end.
func mixed(many int) []string {
	var texts []string
	for len(texts) < many-1 {
		texts = append(texts, fmt.Sprint("num 0 ", len(texts)))
	}
	return append(texts, "end")
}

func TestCodeLengths(t *testing.T) {
	checkBad(t, nil)
	checkBad(t, []impl.Ins{})
	checkUnreadCode(t, "", "\n")
	for many := 1; many <= 60; many++ {
		checkGoodLines(t, mixed(many)...)
		checkBadLines(t, mixed(many + 1)[:many]...)
	}
	for _, many := range []int{61, 62, 120, 1000} {
		checkBadLines(t, mixed(many)...)
	}
	// The longest code has the longest lines too.
	longest := slices.Repeat([]string{"num 2 -999"}, 59)
	checkGoodLines(t, append(longest, "end")...)
	checkBadLines(t, append(longest, "num 2 -999", "end")...)
	huge := make([]impl.Ins, 1<<20)
	checkBad(t, huge)
	checkUnreadCode(t, strings.Repeat("yield\n", 1<<20)+"end\n", strings.Repeat("9", 1<<20), "num 0 "+strings.Repeat("9", 1<<20)+"\nend\n")
}

func TestIndicesInLongCode(t *testing.T) {
	for _, n := range []int{-1, 0, 1, 58, 59, 60, 61} {
		for _, line := range []string{fmt.Sprint("jump ", n), fmt.Sprint("skip 1 ", n)} {
			for _, at := range []int{0, 1, 30, 58} {
				texts := mixed(60)
				texts[at] = line
				if 0 <= n && n <= 59 {
					checkGoodLines(t, texts...)
				} else {
					checkBadLines(t, texts...)
				}
			}
		}
	}
}

// TestFieldsOfEachOp has the instruction where nobody comes, so that only its fields count.
func TestFieldsOfEachOp(t *testing.T) {
	ops := []int{math.MinInt, -13, -1, 0, 1, 2, 3, 4, 5, 6, 7, 8, 9, 10, 11, 12, 13, 14, 15, 26, math.MaxInt}
	values := []int{math.MinInt, -1000, -999, -1, 0, 1, 2, 3, 4, 5, 6, 999, 1000, math.MaxInt}
	for _, op := range ops {
		for i := range len(values) * len(values) * len(values) {
			one := impl.Ins{Op: op, A: values[i%14], B: values[i/14%14], N: values[i/196]}
			c := []impl.Ins{{Op: 7, N: 3}, {Op: 12}, one, {Op: 13}}
			want := op != 13 && modelFields(one, 4)
			if impl.CodeOk(c) != want {
				t.Fatalf("%v: %v", one, !want)
			}
			text := ""
			if want {
				text = modelText(c)
			}
			if got := impl.CodeText(c); got != text {
				t.Fatalf("%v has the text %q", one, got)
			}
		}
	}
}

// TestReachedFieldsOfEachOp has the instruction inside of a monitor, and outside where that is not allowed.
func TestReachedFieldsOfEachOp(t *testing.T) {
	bad := func(i impl.Ins) {
		t.Helper()
		checkBad(t, []impl.Ins{{Op: 8}, i, {Op: 9}, {Op: 13}})
		checkBad(t, []impl.Ins{i, {Op: 13}})
	}
	for op, h := range insShapes {
		if op == impl.InsSkip || op == impl.InsJump {
			h.n = span{0, 1}
		}
		low := impl.Ins{Op: op, A: h.a.low, B: h.b.low, N: h.n.low}
		for _, change := range []func(*impl.Ins){
			func(i *impl.Ins) { i.A = h.a.low - 1 }, func(i *impl.Ins) { i.A = h.a.high + 1 },
			func(i *impl.Ins) { i.B = h.b.low - 1 }, func(i *impl.Ins) { i.B = h.b.high + 1 },
			func(i *impl.Ins) { i.N = h.n.low - 1 }, func(i *impl.Ins) { i.N = 1000 },
			func(i *impl.Ins) { i.A = math.MaxInt }, func(i *impl.Ins) { i.B = math.MinInt }, func(i *impl.Ins) { i.N = math.MaxInt },
		} {
			i := low
			change(&i)
			bad(i)
		}
	}
	// The last instruction has fields as well.
	for _, end := range []impl.Ins{{Op: 13, A: 1}, {Op: 13, B: 1}, {Op: 13, N: 1}, {Op: 13, N: -1}} {
		checkBad(t, []impl.Ins{end})
		checkBad(t, []impl.Ins{{Op: 12}, end})
	}
}

func TestJumps(t *testing.T) {
	checkGoodLines(t, "jump 0", "end")
	checkGoodLines(t, "jump 1", "end")
	checkGoodLines(t, "yield", "jump 1", "end")
	checkGoodLines(t, "yield", "jump 0", "end")
	checkGoodLines(t, "yield", "jump 2", "end")
	checkGoodLines(t, "skip 0 0", "end")
	checkGoodLines(t, "skip 0 1", "end")
	checkGoodLines(t, "yield", "skip 2 1", "end")
	checkGoodLines(t, "yield", "skip 2 0", "end")
	checkGoodLines(t, "yield", "skip 2 2", "end")
	checkGoodLines(t, "jump 1", "jump 0", "end")
	checkGoodLines(t, "jump 2", "jump 1", "jump 1", "end")
	checkBadLines(t, "jump 2", "end")
	checkBadLines(t, "jump -1", "end")
	checkBadLines(t, "skip 0 2", "end")
	checkBadLines(t, "skip 0 -1", "end")
	checkBadLines(t, "jump 2", "jump 3", "end")
	checkBadLines(t, "jump 2", "skip 1 3", "end")
}

func TestTheEndIsTheLast(t *testing.T) {
	checkBadLines(t, "end", "end")
	checkBadLines(t, "end", "yield", "end")
	checkBadLines(t, "jump 2", "end", "end")
	checkBadLines(t, "skip 0 2", "end", "end")
	checkBadLines(t, "end", "yield")
	checkBadLines(t, "yield", "end", "end")
	for _, last := range []string{"num 0 1", "do 0 0 1", "load 0 0", "store 0 0", "say 0", "skip 0 0", "jump 0", "enter 0", "leave 0", "wait 0", "signal 0", "yield"} {
		checkBadLines(t, last)
		checkBadLines(t, "jump 0", last)
		checkBadLines(t, "enter 0", "yield", last)
		checkBadLines(t, "jump 2", "end", last)
	}
}

func TestMonitorsInCode(t *testing.T) {
	for _, texts := range [][]string{
		{"enter 0", "leave 0", "end"},
		{"enter 1", "wait 1", "wait 0", "leave 1", "enter 0", "signal 0", "leave 0", "end"},
		{"signal 1", "enter 1", "signal 0", "leave 1", "signal 0", "end"},
		{"enter 0", "skip 1 4", "wait 0", "jump 1", "leave 0", "end"},
		{"skip 0 4", "enter 0", "leave 0", "jump 0", "end"},
	} {
		checkGoodLines(t, texts...)
	}
	for _, texts := range [][]string{
		// An InsEnter inside of a monitor, the same or another.
		{"enter 0", "enter 0", "leave 0", "end"}, {"enter 0", "enter 1", "leave 1", "end"}, {"enter 0", "enter 1", "leave 1", "leave 0", "end"},
		{"enter 1", "yield", "enter 0", "leave 0", "end"}, {"enter 0", "enter 1", "jump 2", "end"},
		// An InsLeave of another monitor, and outside of all.
		{"enter 0", "leave 1", "end"}, {"enter 1", "leave 0", "end"}, {"leave 0", "end"}, {"leave 1", "end"}, {"enter 0", "leave 0", "leave 0", "end"},
		{"enter 0", "wait 0", "leave 1", "end"}, {"yield", "leave 0", "jump 2", "end"}, {"enter 0", "leave 0", "enter 1", "leave 0", "end"},
		// An InsWait outside.
		{"wait 0", "end"}, {"wait 1", "end"}, {"enter 0", "leave 0", "wait 0", "end"}, {"yield", "wait 1", "jump 2", "end"}, {"wait 0", "enter 0", "leave 0", "end"},
		// An InsEnd inside.
		{"enter 0", "end"}, {"enter 1", "end"}, {"enter 0", "wait 0", "end"}, {"enter 0", "leave 0", "enter 1", "end"}, {"enter 0", "jump 3", "leave 0", "end"},
		{"enter 0", "skip 0 3", "leave 0", "end"},
	} {
		checkBadLines(t, texts...)
	}
}

// A place to which one comes by two ways has to be in the same monitor, or in none, by both.
func TestTwoWaysToOnePlace(t *testing.T) {
	for _, texts := range [][]string{
		{"skip 0 3", "yield", "jump 3", "say 0", "end"},
		{"enter 0", "skip 0 3", "yield", "wait 0", "leave 0", "end"},
		{"skip 0 3", "enter 0", "jump 4", "enter 0", "yield", "leave 0", "end"},
		{"skip 0 4", "enter 1", "leave 1", "jump 4", "yield", "end"},
	} {
		checkGoodLines(t, texts...)
	}
	for _, texts := range [][]string{
		// Inside by one of the ways, and outside by the other, in both orders.
		{"skip 0 2", "enter 0", "yield", "jump 2", "end"},
		{"skip 0 3", "enter 0", "jump 3", "yield", "jump 3", "end"},
		{"skip 0 2", "jump 4", "enter 0", "jump 4", "yield", "jump 4", "end"},
		{"skip 0 2", "enter 0", "leave 0", "end"},
		{"skip 0 2", "enter 0", "wait 0", "jump 2", "end"},
		{"skip 0 2", "enter 0", "jump 2", "end"},
		{"skip 0 2", "enter 0", "end"},
		// Inside of one of them by one way, and inside of the other by the other.
		{"skip 0 3", "enter 0", "jump 4", "enter 1", "yield", "jump 4", "end"},
		{"skip 0 3", "enter 1", "jump 4", "enter 0", "yield", "jump 4", "end"},
		{"skip 0 3", "enter 0", "jump 4", "enter 1", "leave 0", "end"},
		{"skip 0 3", "enter 0", "jump 4", "enter 1", "leave 1", "end"},
		{"skip 0 3", "enter 0", "jump 4", "enter 1", "wait 0", "jump 4", "end"},
		// Around a loop.
		{"enter 0", "jump 0", "end"},
		{"yield", "enter 0", "jump 0", "end"},
		{"enter 0", "yield", "leave 0", "jump 1", "end"},
		{"skip 0 4", "enter 0", "skip 1 0", "leave 0", "end"},
		{"enter 0", "leave 0", "enter 1", "jump 1", "end"},
		{"yield", "enter 0", "skip 0 0", "leave 0", "end"},
	} {
		checkBadLines(t, texts...)
	}
}

func TestUnreachedInstructions(t *testing.T) {
	for _, texts := range [][]string{
		{"jump 2", "leave 0", "end"}, {"jump 2", "leave 1", "end"}, {"jump 2", "wait 0", "end"}, {"jump 2", "enter 0", "end"},
		{"jump 3", "enter 0", "enter 1", "end"}, {"jump 4", "enter 0", "leave 1", "wait 1", "end"},
		{"enter 0", "jump 3", "enter 1", "leave 0", "end"}, {"enter 0", "jump 3", "leave 0", "leave 0", "end"},
		{"jump 3", "wait 0", "jump 1", "end"}, {"jump 3", "enter 0", "jump 3", "end"}, {"jump 0", "enter 0", "end"},
		// What nobody reaches leads to what is reached, but nobody comes by that way.
		{"jump 2", "enter 0", "yield", "end"}, {"jump 3", "skip 0 3", "enter 1", "yield", "end"},
	} {
		checkGoodLines(t, texts...)
	}
	// Their fields still count.
	for _, texts := range [][]string{
		{"jump 2", "leave 2", "end"}, {"jump 2", "wait -1", "end"}, {"jump 2", "jump 3", "end"}, {"jump 2", "skip 0 3", "end"},
		{"jump 2", "num 0 1000", "end"}, {"jump 2", "end", "end"}, {"jump 2", "do 0 0 0", "end"},
	} {
		checkBadLines(t, texts...)
	}
}

func TestLoopsThatNobodyLeaves(t *testing.T) {
	for _, texts := range [][]string{
		{"jump 0", "end"}, {"yield", "jump 0", "end"}, {"enter 0", "jump 1", "end"}, {"enter 1", "wait 0", "jump 1", "end"},
		{"enter 0", "leave 0", "jump 0", "end"}, {"enter 0", "skip 0 1", "jump 1", "end"}, {"skip 0 0", "jump 0", "leave 1", "end"},
		{"enter 0", "leave 0", "enter 1", "leave 1", "jump 0", "wait 0", "end"}, {"enter 0", "jump 3", "leave 1", "jump 1", "end"},
	} {
		checkGoodLines(t, texts...)
	}
	for _, texts := range [][]string{
		{"enter 0", "jump 0", "end"}, {"leave 0", "jump 0", "end"}, {"wait 0", "jump 0", "end"}, {"enter 0", "leave 1", "jump 0", "end"},
		{"enter 0", "leave 0", "jump 1", "end"},
	} {
		checkBadLines(t, texts...)
	}
}

func TestCodeReadExactly(t *testing.T) {
	const text = "enter 0\nskip 1 4\nnum 2 -12\njump 1\ndo 0 1 3\nwait 1\nleave 0\nend\n"
	if _, ok := impl.CodeRead(text); !ok {
		t.Fatal("not read")
	}
	checkUnreadCode(t, text[:len(text)-1], text+"\n", "\n"+text, text+" ", " "+text, text+"end", text+"end\n", text+text, strings.ToUpper(text))
	for at := range len(text) {
		checkUnreadCode(t, text[:at])
		for _, put := range []string{" ", "\n", "\t", "\r", "\x00", "-", "+", "x", "é", "\xff", "_"} {
			checkUnreadCode(t, text[:at]+put+text[at:])
		}
		for _, put := range []string{"\t", "\r", "\x00", "_", "\xff"} {
			checkUnreadCode(t, text[:at]+put+text[at+1:])
		}
	}
}

func TestCodeReadOfOtherTexts(t *testing.T) {
	checkUnreadCode(t,
		// The last newline, empty lines and spaces.
		"", "\n", "\n\n", " ", "end", "yield\nend", "end\n\n", "\nend\n", "yield\n\nend\n", "end \n", " end\n", "yield \nend\n", "say  0\nend\n", "say 0 \nend\n",
		"num 0  1\nend\n", "end\r\n", "say\t0\nend\n", "say 0 end\n", "yield end\n", "yield\vend\n", "say\n0\nend\n",
		// Numbers that are not written as they have to be.
		"num 0 01\nend\n", "num 00 1\nend\n", "num 0 -01\nend\n", "num 0 -0\nend\n", "num -0 1\nend\n", "num 0 +1\nend\n", "num 0 --1\nend\n", "num 0 -\nend\n",
		"num 0 1_0\nend\n", "num 0 0x1\nend\n", "num 0 1.0\nend\n", "num 0 1e1\nend\n", "jump -0\nend\n", "jump 01\nend\n", "num 0 ١\nend\n",
		"say 00\nend\n", "num 0 000\nend\n",
		// Numbers of too many digits.
		"num 0 1000\nend\n", "num 0 -1000\nend\n", "num 0 99999999999999999999\nend\n", "num 0 18446744073709551616\nend\n", "num 0 18446744073709551617\nend\n",
		"jump 18446744073709551616\nend\n", "jump 4294967296\nend\n", "num 0 9223372036854775808\nend\n", "num 0 -9223372036854775809\nend\n", "jump 00000000000000000000\nend\n",
		// Other words.
		"fly\nend\n", "fly 0\nend\n", "End\nend\n", "END\n", "endend\n", "ends\n", "en\n", "nums 0 1\nend\n", "add 0 1\nend\n", "if 0 1\nend\n", "while 0\nend\n", "in 0\nend\n", "-\n", "- end\n",
		"0\nend\n", "0 0\nend\n", "[ ]\nend\n", "stop\n", "yield yield\nend\n", "1 0 1\nend\n",
		// Fields too many or too few.
		"num 0\nend\n", "num\nend\n", "num 0 0 1\nend\n", "do 0 0\nend\n", "do 0 0 1 0\nend\n", "load 0\nend\n", "load 0 0 0\nend\n", "store 0\nend\n", "store 0 0 0\nend\n",
		"say\nend\n", "say 0 0\nend\n", "skip 1\nend\n", "skip 0 1 1\nend\n", "jump\nend\n", "jump 0 1\nend\n", "jump 1 0\nend\n", "enter\nleave 0\nend\n", "enter 0 0\nleave 0\nend\n",
		"enter 0\nleave\nend\n", "enter 0\nleave 0 0\nend\n", "enter 0\nwait\nleave 0\nend\n", "enter 0\nwait 0 0\nleave 0\nend\n", "signal\nend\n", "signal 0 0\nend\n",
		"yield 0\nend\n", "end 0\n", "num 0 \nend\n", "jump \nend\n",
		// Texts of code that is not valid.
		"num 3 0\nend\n", "do 0 0 0\nend\n", "do 0 0 6\nend\n", "load 0 3\nend\n", "store 3 0\nend\n", "say 3\nend\n", "say -1\nend\n", "skip 3 1\nend\n", "skip 0 2\nend\n", "jump 2\nend\n",
		"enter 2\nleave 2\nend\n", "enter 0\nwait 2\nleave 0\nend\n", "signal 2\nend\n", "yield\n", "end\nend\n", "enter 0\nend\n", "leave 0\nend\n", "wait 0\nend\n",
	)
}

func TestCodeSame(t *testing.T) {
	codes := [][]impl.Ins{
		nil, {{}}, {{}, {}}, {{Op: 13}}, {{Op: 12}, {Op: 13}}, {{Op: 13}, {Op: 12}}, {{Op: 13}, {Op: 13}}, {{Op: 99}}, {{Op: -1}}, {{A: 1}}, {{B: 1}}, {{N: 1}}, {{A: -1}}, {{B: -1}}, {{N: -1}},
		{{Op: 1, A: 1, B: 1, N: 1}}, {{Op: 2, A: 1, B: 1, N: 1}}, {{Op: 1, A: 2, B: 1, N: 1}}, {{Op: 1, A: 1, B: 2, N: 1}}, {{Op: 1, A: 1, B: 1, N: 2}},
		lines("yield", "num 0 5", "end"), lines("yield", "num 0 6", "end"), lines("yield", "num 1 5", "end"), lines("num 0 5", "yield", "end"), lines("yield", "num 0 5", "end", "end"),
		{{Op: math.MaxInt, A: math.MinInt}}, make([]impl.Ins, 61), append(make([]impl.Ins, 60), impl.Ins{N: 1}), make([]impl.Ins, 1000),
	}
	for i, a := range codes {
		for j, b := range codes {
			if got := impl.CodeSame(a, slices.Clone(b)); got != (i == j) {
				t.Errorf("%v and %v: %v", a, b, got)
			}
		}
	}
	if !impl.CodeSame(nil, []impl.Ins{}) || !impl.CodeSame([]impl.Ins{}, nil) {
		t.Error("nil and empty")
	}
}

// shortCodes calls do with all code of n instructions, of few kinds but with all indices; the last one is an InsEnd if
// ended, and otherwise any.
func shortCodes(n int, ended bool, do func([]impl.Ins)) {
	parts := []impl.Ins{{Op: 13}, {Op: 12}, {Op: 8}, {Op: 8, A: 1}, {Op: 9}, {Op: 9, A: 1}, {Op: 10}}
	for at := range n {
		parts = append(parts, impl.Ins{Op: 7, N: at}, impl.Ins{Op: 6, N: at})
	}
	c := make([]impl.Ins, n)
	free := n
	if ended {
		free--
		c[free] = impl.Ins{Op: 13}
	}
	var fill func(at int)
	fill = func(at int) {
		if at == free {
			do(c)
			return
		}
		for _, i := range parts {
			c[at] = i
			fill(at + 1)
		}
	}
	fill(0)
}

// TestAllShortCode compares all code of a few instructions with what the document says of the assignments.
func TestAllShortCode(t *testing.T) {
	good := 0
	check := func(c []impl.Ins) {
		ok := impl.CodeOk(c)
		if ok != modelOk(c) {
			t.Fatalf("%q: %v", modelText(c), ok)
		}
		if _, read := impl.CodeRead(modelText(c)); read != ok {
			t.Fatalf("%q is read: %v", modelText(c), read)
		}
		if ok {
			good++
		}
	}
	for n := 1; n <= 3; n++ {
		shortCodes(n, false, check)
	}
	shortCodes(4, true, check)
	shortCodes(5, true, check)
	if good < 1000 {
		t.Errorf("only %d are valid", good)
	}
}

// TestAllShortCodeTexts tries every sequence of up to seven parts of lines.
func TestAllShortCodeTexts(t *testing.T) {
	parts := []string{"end", "jump", "yield", "0", "1", " ", "\n"}
	valid := map[string]bool{}
	for n := 1; n <= 3; n++ {
		shortCodes(n, true, func(c []impl.Ins) {
			if modelOk(c) {
				valid[modelText(c)] = true
			}
		})
	}
	read := 0
	for many, n := 1, 0; n <= 7; many, n = many*len(parts), n+1 {
		for i := range many {
			text := ""
			for range n {
				text += parts[i%len(parts)]
				i /= len(parts)
			}
			_, ok := impl.CodeRead(text)
			if ok != valid[text] {
				t.Fatalf("%q is read: %v", text, ok)
			}
			if ok {
				read++
			}
		}
	}
	// They are the end alone, behind a yield or two, and behind a jump to either index.
	if read != 5 {
		t.Errorf("%d texts are read", read)
	}
}

// checkWalks goes through the code by both ways of each InsSkip, and makes sure of the promise at each instruction.
func checkWalks(t *testing.T, c []impl.Ins) {
	t.Helper()
	type place struct{ at, room int }
	met := map[place]bool{}
	var walk func(p place)
	walk = func(p place) {
		if met[p] {
			return
		}
		met[p] = true
		i, room := c[p.at], p.room
		switch i.Op {
		case impl.InsEnter:
			if room != -1 {
				t.Errorf("%q enters a monitor inside of one at %d", modelText(c), p.at)
			}
			room = i.A
		case impl.InsLeave:
			if room != i.A {
				t.Errorf("%q leaves a monitor that it is not inside of at %d", modelText(c), p.at)
			}
			room = -1
		case impl.InsWait:
			if room == -1 {
				t.Errorf("%q waits outside at %d", modelText(c), p.at)
			}
		case impl.InsEnd:
			if room != -1 {
				t.Errorf("%q ends inside of a monitor", modelText(c))
			}
		}
		for _, next := range modelNext(i, p.at) {
			walk(place{next, room})
		}
	}
	walk(place{0, -1})
}

func TestMadeProcessesAreCompiled(t *testing.T) {
	m := maker{rand.New(rand.NewPCG(4, 14))}
	longest := 0
	for range 20000 {
		left := 14
		process := m.stmts(&left, 3, -1)
		if m.IntN(3) == 0 {
			process = m.process()
		}
		c := impl.CodeOf(process)
		if !slices.Equal(c, append(modelCode(process), impl.Ins{Op: 13})) {
			t.Fatalf("the code of %q is %q", written(process), modelText(c))
		}
		checkGood(t, c, modelText(c))
		checkWalks(t, c)
		longest = max(longest, len(c))
		checkSpoilt(t, m, c)
		if t.Failed() {
			t.Fatal("stopped")
		}
	}
	if longest < 20 {
		t.Errorf("no code is longer than %d", longest)
	}
}

// checkSpoilt changes an instruction, and a part of the text.
func checkSpoilt(t *testing.T, m maker, c []impl.Ins) {
	t.Helper()
	spoilt := slices.Clone(c)
	spoilt[m.IntN(len(c))] = impl.Ins{Op: 1 + m.IntN(13), A: m.IntN(2), N: m.IntN(len(c))}
	if impl.CodeOk(spoilt) {
		checkWalks(t, spoilt)
		checkGood(t, spoilt, modelText(spoilt))
	}
	words := strings.Split(strings.TrimSuffix(modelText(c), "\n"), "\n")
	text := m.spoil(words[m.IntN(len(words))])
	words[m.IntN(len(words))] = text
	text = strings.Join(words, "\n") + "\n"
	back, ok := impl.CodeRead(text)
	if ok && (!impl.CodeOk(back) || modelText(back) != text) || !ok && len(back) != 0 {
		t.Errorf("%q is read as %v, %v", text, back, ok)
	}
}

func TestCodeSharesNoMemory(t *testing.T) {
	process := program(t, "num 0 1 while 0 [ if 0 [ say 0 ] [ in 1 [ ] ] ] in 0 [ wait 1 signal 1 ]")[0]
	first := impl.CodeOf(process)
	text := impl.CodeText(first)
	second := impl.CodeOf(process)
	third, _ := impl.CodeRead(text)
	fourth, _ := impl.CodeRead(text)
	checkApart(t, slices.Concat(places(first), places(second), places(third), places(fourth)))
	clear(first[:cap(first)])
	clear(third[:cap(third)])
	for _, one := range slicesOf(process) {
		clear(one)
	}
	if impl.CodeText(second) != text || impl.CodeText(fourth) != text {
		t.Error("a result has changed")
	}
}

// TestCodeChangesNoArgument hands slices with something behind their ends.
func TestCodeChangesNoArgument(t *testing.T) {
	process := roomy(program(t, "num 0 1 while 0 [ if 0 [ say 0 ] [ in 1 [ ] ] ] in 0 [ wait 1 ]")[0], num(2, 77))
	process[1].Body = roomy(process[1].Body, num(2, 78))
	good := roomy(lines("enter 0", "skip 0 2", "leave 0", "end"), impl.Ins{Op: 7, A: 7, B: 7, N: 7})
	bad := roomy(lines("enter 0", "skip 0 3", "leave 0", "end"), impl.Ins{Op: 7, A: 7, B: 7, N: 7})
	look := func() string { return fmt.Sprint(slicesOf(process), good[:cap(good)], bad[:cap(bad)]) }
	before := look()
	impl.CodeOf(process)
	for _, c := range [][]impl.Ins{good, bad} {
		impl.CodeOk(c)
		impl.CodeText(c)
		impl.CodeSame(c, good)
		impl.CodeSame(bad, c)
	}
	if after := look(); after != before {
		t.Errorf("%s has become %s", before, after)
	}
}
