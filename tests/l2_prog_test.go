package tests

import (
	"math"
	"math/rand/v2"
	"reflect"
	"slices"
	"strconv"
	"strings"
	"testing"

	"loop.example/changeringer/impl"
)

// These tests hold promise 2: programs are read back from their texts.

func TestProgLimitsAndKinds(t *testing.T) {
	limits := [...]int{impl.RegMost, impl.CellMost, impl.RoomMost, impl.SignMost, impl.StmtMost, impl.DeepMost, impl.ProcMost}
	if limits != [...]int{3, 3, 2, 2, 14, 3, 3} {
		t.Error(limits)
	}
	kinds := [...]int{impl.StmtNum, impl.StmtDo, impl.StmtLoad, impl.StmtStore, impl.StmtSay, impl.StmtIf, impl.StmtWhile, impl.StmtIn, impl.StmtWait, impl.StmtSignal, impl.StmtYield, impl.StmtLeave}
	if kinds != [...]int{1, 2, 3, 4, 5, 6, 7, 8, 9, 10, 11, 12} {
		t.Error(kinds)
	}
}

// Short ways to write statements.

func num(a, n int) impl.Stmt          { return impl.Stmt{Kind: impl.StmtNum, A: a, N: n} }
func do(op, a, b int) impl.Stmt       { return impl.Stmt{Kind: impl.StmtDo, A: a, B: b, N: op} }
func load(a, b int) impl.Stmt         { return impl.Stmt{Kind: impl.StmtLoad, A: a, B: b} }
func store(a, b int) impl.Stmt        { return impl.Stmt{Kind: impl.StmtStore, A: a, B: b} }
func say(a int) impl.Stmt             { return impl.Stmt{Kind: impl.StmtSay, A: a} }
func wait(a int) impl.Stmt            { return impl.Stmt{Kind: impl.StmtWait, A: a} }
func signal(a int) impl.Stmt          { return impl.Stmt{Kind: impl.StmtSignal, A: a} }
func yields() impl.Stmt               { return impl.Stmt{Kind: impl.StmtYield} }
func list(s ...impl.Stmt) []impl.Stmt { return s }

func choose(a int, body, other []impl.Stmt) impl.Stmt {
	return impl.Stmt{Kind: impl.StmtIf, A: a, Body: body, Else: other}
}

func while(a int, body ...impl.Stmt) impl.Stmt {
	return impl.Stmt{Kind: impl.StmtWhile, A: a, Body: body}
}

func in(a int, body ...impl.Stmt) impl.Stmt {
	return impl.Stmt{Kind: impl.StmtIn, A: a, Body: body}
}

func repeat(s impl.Stmt, times int) []impl.Stmt { return slices.Repeat(list(s), times) }

// alike compares without the program's help; a nil and an empty list are alike.
func alike(a, b []impl.Stmt) bool {
	return slices.EqualFunc(a, b, func(s, r impl.Stmt) bool {
		return s.Kind == r.Kind && s.A == r.A && s.B == r.B && s.N == r.N && alike(s.Body, r.Body) && alike(s.Else, r.Else)
	})
}

func checkReadBack(t *testing.T, process []impl.Stmt, text string) {
	t.Helper()
	if !impl.StmtsOk(process) {
		t.Errorf("%q is not valid", text)
	}
	if got := impl.StmtsText(process); got != text {
		t.Errorf("the text is %q, not %q", got, text)
	}
	back, ok := impl.StmtsRead(text)
	if !ok || !alike(back, process) {
		t.Errorf("%q is read as %v, %v", text, back, ok)
	}
	if !impl.StmtsSame(process, back) {
		t.Errorf("%q is not the same when it is read", text)
	}
}

func checkUnread(t *testing.T, texts ...string) {
	t.Helper()
	for _, text := range texts {
		if got, ok := impl.StmtsRead(text); ok || len(got) != 0 {
			t.Errorf("%q is read as %v, %v", text, got, ok)
		}
	}
}

// checkInvalid also makes sure that a valid process before and behind it does not help.
func checkInvalid(t *testing.T, process []impl.Stmt) {
	t.Helper()
	good := list(yields())
	if impl.StmtsOk(process) {
		t.Errorf("%v is valid", process)
	}
	if n := impl.StmtsMany(process); n != 0 {
		t.Errorf("%v has %d statements", process, n)
	}
	if text := impl.StmtsText(process); text != "" {
		t.Errorf("%v has the text %q", process, text)
	}
	if impl.StmtsSame(process, process) || impl.StmtsSame(process, good) || impl.StmtsSame(good, process) {
		t.Errorf("%v is the same as something", process)
	}
	for _, p := range [][][]impl.Stmt{{process}, {process, good, good}, {good, process, good}, {good, good, process}} {
		if impl.ProgOk(p) {
			t.Errorf("a program with %v is valid", process)
		}
	}
}

type stmtText struct {
	stmt impl.Stmt
	text string
}

// flatTexts holds the kinds that have no body, all but StmtWait; registers, cells and signals at both ends.
var flatTexts = []stmtText{
	{num(0, 0), "num 0 0"}, {num(2, 999), "num 2 999"}, {num(1, -999), "num 1 -999"}, {num(0, -1), "num 0 -1"}, {num(0, 10), "num 0 10"},
	{do(impl.NumAdd, 0, 2), "add 0 2"}, {do(impl.NumSub, 2, 0), "sub 2 0"}, {do(impl.NumMul, 1, 1), "mul 1 1"},
	{do(impl.NumLess, 0, 1), "less 0 1"}, {do(impl.NumSame, 2, 2), "same 2 2"},
	{load(0, 2), "load 0 2"}, {load(2, 0), "load 2 0"}, {store(0, 2), "store 0 2"}, {store(2, 0), "store 2 0"},
	{say(0), "say 0"}, {say(2), "say 2"}, {signal(0), "signal 0"}, {signal(1), "signal 1"}, {yields(), "yield"},
}

// bodyTexts holds the kinds that have a body, around a statement and its text.
func bodyTexts(s impl.Stmt, text string) []stmtText {
	return []stmtText{
		{choose(0, list(s), nil), "if 0 [ " + text + " ] [ ]"},
		{choose(2, nil, list(s)), "if 2 [ ] [ " + text + " ]"},
		{choose(1, list(s, yields()), list(say(1), s)), "if 1 [ " + text + " yield ] [ say 1 " + text + " ]"},
		{while(0, s), "while 0 [ " + text + " ]"},
		{while(2, s, s), "while 2 [ " + text + " " + text + " ]"},
	}
}

func roomTexts(s impl.Stmt, text string) []stmtText {
	return []stmtText{{in(0, s), "in 0 [ " + text + " ]"}, {in(1, say(0), s), "in 1 [ say 0 " + text + " ]"}}
}

func TestEachKindIsReadBack(t *testing.T) {
	for _, c := range flatTexts {
		checkReadBack(t, list(c.stmt), c.text)
		checkReadBack(t, list(c.stmt, yields(), c.stmt), c.text+" yield "+c.text)
		for _, b := range slices.Concat(bodyTexts(c.stmt, c.text), roomTexts(c.stmt, c.text)) {
			checkReadBack(t, list(b.stmt), b.text)
			for _, deeper := range bodyTexts(b.stmt, b.text) {
				checkReadBack(t, list(deeper.stmt), deeper.text)
			}
		}
	}
}

func TestWaitIsReadBackInsideOfAMonitor(t *testing.T) {
	for _, c := range []stmtText{{wait(0), "wait 0"}, {wait(1), "wait 1"}} {
		for _, r := range roomTexts(c.stmt, c.text) {
			checkReadBack(t, list(r.stmt), r.text)
			for _, b := range bodyTexts(r.stmt, r.text) {
				checkReadBack(t, list(b.stmt), b.text)
			}
		}
		for _, b := range bodyTexts(c.stmt, c.text) {
			for _, r := range roomTexts(b.stmt, b.text) {
				checkReadBack(t, list(r.stmt), r.text)
			}
		}
	}
}

func TestExampleIsReadBack(t *testing.T) {
	checkReadBack(t, list(in(0, load(0, 0), do(impl.NumAdd, 0, 0), store(0, 0))), "in 0 [ load 0 0 add 0 0 store 0 0 ]")
}

func TestNothing(t *testing.T) {
	checkReadBack(t, nil, "-")
	checkReadBack(t, list(), "-")
	checkReadBack(t, list(choose(0, nil, nil)), "if 0 [ ] [ ]")
	checkReadBack(t, list(choose(2, list(), list())), "if 2 [ ] [ ]")
	checkReadBack(t, list(while(2)), "while 2 [ ]")
	checkReadBack(t, list(in(1)), "in 1 [ ]")
	checkReadBack(t, list(in(0, choose(0, nil, list(while(1))))), "in 0 [ if 0 [ ] [ while 1 [ ] ] ]")
	if !impl.StmtsSame(nil, list()) || impl.StmtsMany(nil) != 0 {
		t.Error("the empty process")
	}
	checkUnread(t, "", " ", "- ", " -", "- -", "--", "-0", "[ ]", "[", "]", "[]", "yield -", "- yield", "in 0 [ - ]", "while 0 [ - ]", "if 0 [ - ] [ ]", "if 0 [ ] [ - ]", "in 0 []", "in 0 [  ]")
}

func TestPrograms(t *testing.T) {
	processes := [][]impl.Stmt{nil, list(num(0, -5), say(0)), list(in(1, wait(1))), list(yields())}
	for n := 0; n <= len(processes); n++ {
		if got, want := impl.ProgOk(processes[:n]), 1 <= n && n <= 3; got != want {
			t.Errorf("a program of %d processes: %v", n, got)
		}
	}
	if !impl.ProgOk([][]impl.Stmt{nil}) || !impl.ProgOk([][]impl.Stmt{nil, nil, nil}) || impl.ProgOk(make([][]impl.Stmt, 4)) || impl.ProgOk(nil) {
		t.Error("programs of empty processes")
	}
	full := repeat(yields(), 14)
	if !impl.ProgOk([][]impl.Stmt{full, full, full}) {
		t.Error("the limit is one of each process")
	}
}

// span is what the document says that a field may be; the zero span is a field that has to be zero.
type span struct{ low, high int }

func (s span) has(n int) bool { return s.low <= n && n <= s.high }

// shape is what the document's table says of a kind; in and out are where it may be.
type shape struct {
	a, b, n     span
	body, other bool
	in, out     bool
}

var shapes = map[int]shape{
	1:  {a: span{0, 2}, n: span{-999, 999}, in: true, out: true},
	2:  {a: span{0, 2}, b: span{0, 2}, n: span{1, 5}, in: true, out: true},
	3:  {a: span{0, 2}, b: span{0, 2}, in: true, out: true},
	4:  {a: span{0, 2}, b: span{0, 2}, in: true, out: true},
	5:  {a: span{0, 2}, in: true, out: true},
	6:  {a: span{0, 2}, body: true, other: true, in: true, out: true},
	7:  {a: span{0, 2}, body: true, in: true, out: true},
	8:  {a: span{0, 1}, body: true, out: true},
	9:  {a: span{0, 1}, in: true},
	10: {a: span{0, 1}, in: true, out: true},
	11: {in: true, out: true},
}

func (h shape) allows(s impl.Stmt, deep, room int) bool {
	if !h.a.has(s.A) || !h.b.has(s.B) || !h.n.has(s.N) {
		return false
	}
	if len(s.Body) > 0 && !h.body || len(s.Else) > 0 && !h.other || room >= 0 && !h.in || room < 0 && !h.out {
		return false
	}
	return deep >= 2 || len(s.Body)+len(s.Else) == 0
}

func TestEveryFieldOfEveryKind(t *testing.T) {
	kinds := []int{math.MinInt, -12, -1, 0, 1, 2, 3, 4, 5, 6, 7, 8, 9, 10, 11, 12, 13, math.MaxInt}
	values := []int{math.MinInt, -1000, -999, -1, 0, 1, 2, 3, 5, 6, 999, 1000, math.MaxInt}
	bodies := [][]impl.Stmt{nil, list(yields())}
	for _, kind := range kinds {
		h, known := shapes[kind]
		for i := range len(values) * len(values) * len(values) * 4 {
			s := impl.Stmt{Kind: kind, A: values[i/4%13], B: values[i/4/13%13], N: values[i/4/169], Body: bodies[i%2], Else: bodies[i/2%2]}
			for deep := -1; deep <= 4; deep++ {
				for room := -2; room <= 2; room++ {
					given := 0 <= deep && deep <= 3 && -1 <= room && room <= 1
					want := given && deep >= 1 && known && h.allows(s, deep, room)
					if got := impl.StmtOk(s, deep, room); got != want {
						t.Fatalf("StmtOk(%v, %d, %d) is %v", s, deep, room, got)
					}
				}
			}
			if want := known && h.allows(s, 3, -1); impl.StmtsOk(list(s)) != want {
				t.Fatalf("StmtsOk(%v) is not %v", s, want)
			}
		}
	}
}

func TestStmtOkDepthAndRoom(t *testing.T) {
	for _, deep := range []int{math.MinInt, -1, 0, 4, 5, math.MaxInt} {
		for room := -1; room <= 1; room++ {
			if impl.StmtOk(yields(), deep, room) || impl.StmtOk(choose(0, nil, nil), deep, room) {
				t.Errorf("valid at the depth limit %d", deep)
			}
		}
	}
	for _, room := range []int{math.MinInt, -2, 2, 3, math.MaxInt} {
		for deep := 1; deep <= 3; deep++ {
			if impl.StmtOk(yields(), deep, room) || impl.StmtOk(wait(0), deep, room) || impl.StmtOk(in(0), deep, room) {
				t.Errorf("valid in room %d", room)
			}
		}
	}
	nested := []impl.Stmt{yields(), while(0, yields()), while(0, while(0, yields())), while(0, while(0, while(0, yields())))}
	for i, s := range nested {
		for deep := -1; deep <= 4; deep++ {
			if got, want := impl.StmtOk(s, deep, -1), i < deep && deep <= 3; got != want {
				t.Errorf("%v with the depth limit %d: %v", s, deep, got)
			}
		}
	}
}

// A single StmtOk has no limit of statements, only one of depth.
func TestStmtOkOfManyStatements(t *testing.T) {
	if !impl.StmtOk(while(0, repeat(yields(), 40)...), 2, 0) {
		t.Error("StmtOk counts")
	}
	if impl.StmtOk(while(0, append(repeat(yields(), 40), say(3))...), 2, 0) || impl.StmtOk(choose(0, nil, append(repeat(yields(), 40), say(3))), 2, 0) {
		t.Error("the last statement of a body is not looked at")
	}
}

// wraps puts a statement into each place that a statement can be inside of another.
var wraps = []func(impl.Stmt) impl.Stmt{
	func(s impl.Stmt) impl.Stmt { return choose(0, list(yields(), s), nil) },
	func(s impl.Stmt) impl.Stmt { return choose(0, list(yields()), list(yields(), s)) },
	func(s impl.Stmt) impl.Stmt { return while(0, s, yields()) },
}

func TestDepth(t *testing.T) {
	wider := append(slices.Clone(wraps), func(s impl.Stmt) impl.Stmt { return in(0, s) })
	for i, first := range wider {
		for j, second := range wraps {
			two := first(second(say(0)))
			checkValid(t, list(two))
			checkValid(t, list(first(second(while(0)))))
			checkInvalid(t, list(first(second(while(0, say(0))))))
			checkInvalid(t, list(wraps[(i+j)%3](two)))
			checkInvalid(t, list(yields(), wraps[(i+j)%3](two)))
		}
	}
	checkValid(t, list(while(0, while(0, in(0)))))
	checkInvalid(t, list(while(0, while(0, in(0, yields())))))
	checkUnread(t, "if 0 [ if 0 [ if 0 [ say 0 ] [ ] ] [ ] ] [ ]", "while 0 [ while 0 [ in 0 [ yield ] ] ]", "in 0 [ while 0 [ while 0 [ wait 0 ] ] ]", "while 0 [ while 0 [ while 0 [ while 0 [ ] ] ] ]")
}

func checkValid(t *testing.T, process []impl.Stmt) {
	t.Helper()
	checkReadBack(t, process, written(process))
}

// written is a writer apart from the program's.
func written(process []impl.Stmt) string {
	if len(process) == 0 {
		return "-"
	}
	return strings.Join(writtenWords(process), " ")
}

func writtenWords(process []impl.Stmt) []string {
	var words []string
	for _, s := range process {
		a, b, n := strconv.Itoa(s.A), strconv.Itoa(s.B), strconv.Itoa(s.N)
		first := []string{"", "num", "", "load", "store", "say", "if", "while", "in", "wait", "signal", "yield"}[s.Kind]
		switch s.Kind {
		case impl.StmtNum:
			words = append(words, first, a, n)
		case impl.StmtDo:
			words = append(words, strings.Fields("add sub mul less same")[s.N-1], a, b)
		case impl.StmtLoad, impl.StmtStore:
			words = append(words, first, a, b)
		case impl.StmtYield:
			words = append(words, first)
		default:
			words = append(words, first, a)
		}
		if s.Kind == impl.StmtIf || s.Kind == impl.StmtWhile || s.Kind == impl.StmtIn {
			words = slices.Concat(words, []string{"["}, writtenWords(s.Body), []string{"]"})
		}
		if s.Kind == impl.StmtIf {
			words = slices.Concat(words, []string{"["}, writtenWords(s.Else), []string{"]"})
		}
	}
	return words
}

func TestMonitorInsideOfAMonitor(t *testing.T) {
	for a := 0; a <= 1; a++ {
		for b := 0; b <= 1; b++ {
			checkInvalid(t, list(in(a, in(b))))
			checkInvalid(t, list(in(a, yields(), in(b))))
			checkInvalid(t, list(in(a, while(0, in(b)))))
			checkInvalid(t, list(in(a, choose(0, list(in(b)), nil))))
			checkInvalid(t, list(in(a, choose(0, nil, list(in(b))))))
			checkInvalid(t, list(while(0, in(a, in(b)))))
			checkValid(t, list(in(a), in(b)))
			checkValid(t, list(while(0, in(a, yields()), in(b, yields()))))
			checkValid(t, list(choose(0, list(in(a)), list(in(b)))))
			if impl.StmtOk(in(b), 3, a) || impl.StmtOk(while(0, in(b)), 3, a) || !impl.StmtOk(in(b), 3, -1) {
				t.Errorf("StmtOk of in %d inside of %d", b, a)
			}
		}
	}
	checkUnread(t, "in 0 [ in 1 [ ] ]", "in 0 [ in 0 [ ] ]", "in 1 [ if 0 [ in 0 [ ] ] [ ] ]", "in 1 [ if 0 [ ] [ in 0 [ ] ] ]", "in 0 [ while 0 [ in 1 [ ] ] ]")
}

func TestWaitOutsideOfAMonitor(t *testing.T) {
	for a := 0; a <= 1; a++ {
		checkInvalid(t, list(wait(a)))
		checkInvalid(t, list(in(0, yields()), wait(a)))
		checkInvalid(t, list(wait(a), in(0)))
		for _, wrap := range wraps {
			checkInvalid(t, list(wrap(wait(a))))
			checkInvalid(t, list(wrap(wrap(wait(a)))))
			checkInvalid(t, list(while(0, in(0), wait(a))))
			checkValid(t, list(in(1, wrap(wait(a)))))
			checkValid(t, list(wrap(in(1, wait(a)))))
			if impl.StmtOk(wrap(wait(a)), 3, -1) || !impl.StmtOk(wrap(wait(a)), 3, 0) || !impl.StmtOk(wrap(wait(a)), 2, 1) {
				t.Errorf("StmtOk of wait %d in a body", a)
			}
		}
		checkValid(t, list(in(0, wait(a), wait(a))))
	}
	checkUnread(t, "wait 0", "wait 1", "if 0 [ wait 0 ] [ ]", "if 0 [ ] [ wait 0 ]", "while 0 [ wait 1 ]", "in 0 [ ] wait 0")
}

// manyStmts holds processes of n statements: in a row, and in bodies.
func manyStmts(n int) [][]impl.Stmt {
	return [][]impl.Stmt{
		repeat(yields(), n),
		repeat(choose(0, nil, nil), n),
		list(in(0, repeat(wait(0), n-1)...)),
		list(while(0, repeat(say(2), n-1)...)),
		list(choose(0, nil, repeat(say(2), n-1))),
		list(choose(0, repeat(say(2), 6), repeat(say(1), n-7))),
		list(choose(0, list(while(1, repeat(yields(), 4)...)), list(while(1, repeat(yields(), n-8)...))), yields()),
		append(repeat(while(0, while(0, yields())), 4), repeat(yields(), n-12)...),
		append(repeat(choose(0, list(yields()), list(yields())), 4), repeat(yields(), n-12)...),
	}
}

func TestStatementsAreCounted(t *testing.T) {
	for n := 12; n <= 14; n++ {
		for _, process := range manyStmts(n) {
			checkValid(t, process)
			if got := impl.StmtsMany(process); got != n {
				t.Errorf("%v has %d statements, not %d", process, got, n)
			}
		}
	}
	for _, n := range []int{15, 16, 100} {
		for _, process := range manyStmts(n) {
			checkInvalid(t, process)
			checkUnread(t, written(process))
		}
	}
	small := list(in(1, load(0, 2), choose(0, list(wait(1)), nil), signal(0), store(2, 0)))
	if impl.StmtsMany(small) != 6 || impl.StmtsMany(list(yields())) != 1 || impl.StmtsMany(list(choose(0, nil, list(yields())))) != 2 {
		t.Error("a few statements")
	}
}

// A list can hold itself; no process is like that, and no function may run forever.
func TestListsThatHoldThemselves(t *testing.T) {
	for _, s := range []impl.Stmt{while(0), in(0), choose(0, nil, nil)} {
		loop := list(s)
		loop[0].Body = loop
		checkHoldsItself(t, loop)
	}
	loop := list(choose(0, nil, nil))
	loop[0].Else = loop
	checkHoldsItself(t, loop)
}

func checkHoldsItself(t *testing.T, loop []impl.Stmt) {
	t.Helper()
	good := list(yields())
	if impl.StmtsOk(loop) || impl.StmtOk(loop[0], 3, -1) || impl.StmtsMany(loop) != 0 || impl.StmtsText(loop) != "" {
		t.Error("a list that holds itself is valid")
	}
	if impl.StmtsSame(loop, loop) || impl.StmtsSame(loop, good) || impl.StmtsSame(good, loop) || impl.ProgOk([][]impl.Stmt{good, loop}) {
		t.Error("a list that holds itself is used")
	}
}

// The longest text of a process is far from the 400 bytes, so that on both sides of the bound no text is read.
func TestLongTexts(t *testing.T) {
	longest := strings.TrimSuffix(strings.Repeat("if 0 [ ] [ ] ", 14), " ")
	checkReadBack(t, repeat(choose(0, nil, nil), 14), longest)
	for _, n := range []int{182, 399, 400, 401, 402, 5000} {
		checkUnread(t,
			strings.Repeat(" ", n), strings.Repeat("-", n), strings.Repeat("0", n),
			strings.Repeat("yield ", n)[:n], strings.Repeat("in 0 [ ", n)[:n], strings.Repeat("] ", n)[:n],
			longest+strings.Repeat(" ", n-len(longest)),
			"-"+strings.Repeat(" ", n-1),
			"num 0 "+strings.Repeat("0", n-6),
			"num 0 1"+strings.Repeat("0", n-7),
			strings.Repeat(" ", n-5)+"yield",
			"yield"+strings.Repeat(" ", n-5))
	}
}

// unreadTexts are not those of any process.
var unreadTexts = []string{
	// Numbers that are not in their form, or none.
	"num 0 01", "num 00 1", "num 0 00", "num 0 -0", "num -0 1", "num 0 +1", "num +0 1", "num 0 -01", "num 0 --1", "num 0 1.0", "num 0 1e1", "num 0 0x1", "num 0 1_0", "num 0 x", "num x 0", "num 0 -", "num 0 ٣",
	"add 0 01", "load 00 0", "store 0 +0", "say -0", "if 00 [ ] [ ]", "while +0 [ ]", "in 01 [ ]", "signal 00", "in 0 [ wait 00 ]",
	// Numbers past their ends.
	"num 0 1000", "num 0 -1000", "num 3 1", "num -1 1", "add 3 0", "add 0 3", "sub 0 -1", "load 3 0", "load 0 3", "store 3 0", "store 0 3", "say 3", "say -1", "if 3 [ ] [ ]", "while 3 [ ]", "in 2 [ ]", "in -1 [ ]", "signal 2", "signal -1", "in 0 [ wait 2 ]", "in 0 [ wait -1 ]",
	"num 0 9223372036854775807", "num 0 9223372036854775808", "num 0 18446744073709551616", "num 0 -9223372036854775809", "num 18446744073709551616 1", "num 0 18446744073709551617",
	// Spaces, and what is none.
	"say  0", " say 0", "say 0 ", "say 0  yield", "  ", "say\t0", "say 0\n", "\nsay 0", "say 0\nyield", "say 0\tyield", "say 0\r", "say\u00a00", "say 0\x00", "\x00", "in 0 [ yield  ]", "in 0  [ ]", "in 0 [ ] ", "if 0 [ ]  [ ]", "in 0 [\t]", "in 0 [ ]\n", "yield ", " yield", "yield\v", "say0",
	// Brackets too many or too few.
	"in 0 [", "in 0 ]", "in 0", "in 0 [ ] ]", "in 0 [ [ ]", "in 0 [ [ ] ]", "in 0 ] [", "in 0 [ yield", "in 0 yield ]", "in 0 yield", "if 0 [ ]", "if 0 [ ] [", "if 0 [ ] ]", "if 0 [ ] [ ] ]", "if 0 [ ] [ ] [ ]", "if 0 [ [ ] [ ]", "if 0", "if 0 [", "if 0 [ ] yield", "while 0 [ ] [ ]", "while 0 [", "while 0", "while 0 ]", "yield ]", "] yield", "[ yield ]", "in 0 ( )", "in 0[ ]", "in 0 [ yield]", "in 0 [yield ]", "if 0 [ ][ ]", "say [ ]", "say 0 [ ]", "yield [ ]",
	// Words too few or too many.
	"num", "num 0", "add", "add 0", "load", "load 0", "store 1", "say", "if", "while", "in", "in 0 [ wait", "in 0 [ wait ]", "in 0 [ wait 0", "signal", "yield say", "yield num 0", "yield 0", "num 0 1 2", "add 0 1 2", "say 0 0", "signal 0 0", "while 0 1 [ ]", "in 0 0 [ ]", "if [ ] [ ]", "0", "0 yield",
	// Words that are none.
	"fly", "Yield", "YIELD", "Num 0 1", "do 0 0 1", "leave 0", "enter 0", "end", "jump 0", "yields", "yiel", "yield,yield", "sáy 0", "\xff", "yield \xff", "say \xff", "nothing", "in 0 [ fly ]", "in 0 [ leave 0 ]", "in 0 [ ] leave 0",
}

func TestInvalidTexts(t *testing.T) { checkUnread(t, unreadTexts...) }

func TestInvalidLists(t *testing.T) {
	for _, s := range []impl.Stmt{
		{}, {Kind: -1}, {Kind: impl.StmtLeave}, {Kind: 13}, {Kind: -11}, {Kind: math.MinInt}, {Kind: math.MaxInt},
		num(3, 0), num(-1, 0), num(0, 1000), num(0, -1000), {Kind: impl.StmtNum, B: 1},
		do(0, 0, 0), do(6, 0, 0), do(1, 3, 0), do(1, 0, 3), do(-1, 0, 0),
		load(3, 0), load(0, 3), store(3, 0), store(0, 3), say(3), signal(2), choose(3, nil, nil), while(3), in(2), in(-1),
		{Kind: impl.StmtYield, A: 1}, {Kind: impl.StmtYield, B: 1}, {Kind: impl.StmtYield, N: -1},
		{Kind: impl.StmtYield, Body: list(yields())}, {Kind: impl.StmtYield, Else: list(yields())},
		{Kind: impl.StmtWhile, Else: list(yields())}, {Kind: impl.StmtIn, Else: list(yields())},
		in(0, impl.Stmt{Kind: impl.StmtLeave}), in(0, wait(2)), in(0, impl.Stmt{Kind: impl.StmtWait, Body: list(yields())}),
	} {
		checkInvalid(t, list(s))
		checkInvalid(t, list(yields(), s))
		checkInvalid(t, list(s, yields()))
		checkInvalid(t, list(while(0, s)))
		checkInvalid(t, list(while(0, yields(), s)))
		checkInvalid(t, list(choose(0, nil, list(yields(), s))))
		checkInvalid(t, list(in(0, s)))
	}
}

func TestSame(t *testing.T) {
	processes := [][]impl.Stmt{
		nil, list(yields()), list(yields(), yields()), list(say(0)), list(say(1)), list(signal(0)), list(signal(1)),
		list(num(0, 0)), list(num(0, 1)), list(num(1, 0)), list(num(0, -1)), list(load(0, 0)), list(load(0, 1)), list(load(1, 0)),
		list(store(0, 0)), list(store(0, 1)), list(store(1, 0)), list(do(1, 0, 0)), list(do(1, 0, 1)), list(do(1, 1, 0)), list(do(2, 0, 0)), list(do(5, 0, 0)),
		list(say(0), say(1)), list(say(1), say(0)), list(choose(0, nil, nil)), list(choose(0, list(yields()), nil)), list(choose(0, nil, list(yields()))),
		list(choose(0, list(yields()), list(yields()))), list(choose(0, list(say(0)), list(yields()))), list(choose(0, list(yields()), list(say(0)))),
		list(while(0)), list(while(0), yields()), list(while(0, yields())), list(while(0, while(0, say(0)))), list(while(0, while(0, say(1)))),
		list(while(0, while(0), say(1))), list(in(0)), list(in(1)), list(in(0, wait(0))), list(in(0, wait(1))), list(in(0, while(0, wait(1)))),
	}
	for i, a := range processes {
		for j, b := range processes {
			if got := impl.StmtsSame(a, copied(b)); got != (i == j) {
				t.Errorf("%q and %q: %v", written(a), written(b), got)
			}
		}
	}
}

// copied shares no memory with the process.
func copied(process []impl.Stmt) []impl.Stmt {
	out := make([]impl.Stmt, 0, len(process))
	for _, s := range process {
		s.Body, s.Else = copied(s.Body), copied(s.Else)
		out = append(out, s)
	}
	return out
}

// TestNothingIsChanged hands lists with room behind them, which is not to be used either.
func TestNothingIsChanged(t *testing.T) {
	for _, make := range []func() []impl.Stmt{
		func() []impl.Stmt {
			return list(in(0, wait(0), choose(0, list(say(0)), list(yields())), yields()), num(0, 5), say(1))
		},
		func() []impl.Stmt { return list(while(1, in(0, wait(0))), say(7), say(1)) },
		func() []impl.Stmt { return repeat(while(0, yields()), 16) },
	} {
		got, want := make(), make()
		handed := got[:len(got)-1]
		handed[0].Body = handed[0].Body[:1]
		want[0].Body = want[0].Body[:1]
		p := [][]impl.Stmt{handed, handed, handed[:1]}
		impl.ProgOk(p[:2])
		impl.StmtsOk(handed)
		impl.StmtOk(handed[0], 3, -1)
		impl.StmtsMany(handed)
		impl.StmtsText(handed)
		impl.StmtsSame(handed, handed)
		impl.StmtsSame(handed, want[:len(want)-1])
		if !reflect.DeepEqual(got, want) || !reflect.DeepEqual(got[0].Body[:cap(got[0].Body)], want[0].Body[:cap(want[0].Body)]) {
			t.Errorf("%v has become %v", want, got)
		}
		if len(p) != 3 || len(p[2]) != 1 {
			t.Error("the program has changed")
		}
	}
}

// slicesOf returns the lists of a process, up to their capacities.
func slicesOf(process []impl.Stmt) [][]impl.Stmt {
	all := [][]impl.Stmt{process[:cap(process)]}
	for _, s := range process {
		all = slices.Concat(all, slicesOf(s.Body), slicesOf(s.Else))
	}
	return all
}

func TestReadSharesNoMemory(t *testing.T) {
	const text = "if 0 [ say 0 say 1 yield ] [ say 0 say 1 yield ] in 0 [ if 0 [ wait 0 ] [ wait 1 ] signal 0 ] if 0 [ ] [ ]"
	first, _ := impl.StmtsRead(text)
	second, ok := impl.StmtsRead(text)
	if !ok || impl.StmtsText(first) != text {
		t.Fatal("not read")
	}
	seen := map[*impl.Stmt]bool{}
	for _, all := range [][]impl.Stmt{first, second} {
		for _, one := range slicesOf(all) {
			for i := range one {
				if seen[&one[i]] {
					t.Fatal("two lists share memory")
				}
				seen[&one[i]] = true
			}
		}
	}
	for _, one := range slicesOf(first) {
		clear(one)
	}
	if impl.StmtsText(second) != text {
		t.Error("a result changed with another")
	}
}

// maker makes processes from a fixed seed, so that each run makes the same.
type maker struct{ *rand.Rand }

func (m maker) stmts(left *int, deep, room int) []impl.Stmt {
	var out []impl.Stmt
	for *left > 0 && deep > 0 && m.IntN(4) > 0 {
		*left--
		out = append(out, m.stmt(left, deep, room))
	}
	return out
}

func (m maker) stmt(left *int, deep, room int) impl.Stmt {
	switch kind := 1 + m.IntN(11); {
	case kind == impl.StmtNum:
		return num(m.IntN(3), m.IntN(1999)-999)
	case kind == impl.StmtDo:
		return do(1+m.IntN(5), m.IntN(3), m.IntN(3))
	case kind == impl.StmtLoad || kind == impl.StmtStore:
		return impl.Stmt{Kind: kind, A: m.IntN(3), B: m.IntN(3)}
	case kind == impl.StmtIf:
		return choose(m.IntN(3), m.stmts(left, deep-1, room), m.stmts(left, deep-1, room))
	case kind == impl.StmtWhile:
		return while(m.IntN(3), m.stmts(left, deep-1, room)...)
	case kind == impl.StmtIn && room < 0:
		a := m.IntN(2)
		return in(a, m.stmts(left, deep-1, a)...)
	case kind == impl.StmtWait && room >= 0 || kind == impl.StmtSignal:
		return impl.Stmt{Kind: kind, A: m.IntN(2)}
	case kind == impl.StmtSay:
		return say(m.IntN(3))
	}
	return yields()
}

// spoil changes a text in one or two places.
func (m maker) spoil(text string) string {
	words := strings.Split(text, " ")
	parts := []string{"[", "]", "", "-", "0", "00", "-0", "+1", "1", "3", "999", "1000", "num", "add", "say", "if", "while", "in", "wait", "signal", "yield", "\n"}
	for range 1 + m.IntN(2) {
		at, part := m.IntN(len(words)), parts[m.IntN(len(parts))]
		switch m.IntN(3) {
		case 0:
			words[at] = part
		case 1:
			words = slices.Insert(words, at, part)
		case 2:
			words = append(slices.Delete(words, at, at+1), "yield")
		}
	}
	return strings.Join(words, " ")
}

func TestMadeProcessesAreReadBack(t *testing.T) {
	m := maker{rand.New(rand.NewPCG(2, 14))}
	full := 0
	for range 20000 {
		left := 14
		process := m.stmts(&left, 3, -1)
		checkValid(t, process)
		if got := impl.StmtsMany(process); got != 14-left {
			t.Fatalf("%q has %d statements, not %d", written(process), got, 14-left)
		}
		if left == 0 {
			full++
		}
		text := m.spoil(written(process))
		back, ok := impl.StmtsRead(text)
		if ok && (!impl.StmtsOk(back) || written(back) != text) || !ok && len(back) != 0 {
			t.Fatalf("%q is read as %v, %v", text, back, ok)
		}
		if t.Failed() {
			t.Fatal("stopped")
		}
	}
	if full == 0 {
		t.Error("no process was full")
	}
}

// shortTexts returns all texts of n words that a list can have, of the words in shortWords.
func shortTexts(n, deep int, inside bool) []string {
	if n == 0 {
		return []string{""}
	}
	var out []string
	if deep == 0 || n < 0 {
		return out
	}
	join := func(heads, tails []string) {
		for _, head := range heads {
			for _, tail := range tails {
				out = append(out, head+tail)
			}
		}
	}
	join([]string{" yield"}, shortTexts(n-1, deep, inside))
	if inside {
		join([]string{" wait 0"}, shortTexts(n-2, deep, inside))
	}
	for body := 0; body <= n-4; body++ {
		if !inside {
			join(bracketed(" in 0 [", shortTexts(body, deep-1, true)), shortTexts(n-4-body, deep, inside))
		}
		for other := 0; other <= n-6-body; other++ {
			for _, head := range bracketed(" if 0 [", shortTexts(body, deep-1, inside)) {
				join(bracketed(head+" [", shortTexts(other, deep-1, inside)), shortTexts(n-6-body-other, deep, inside))
			}
		}
	}
	return out
}

func bracketed(head string, bodies []string) []string {
	var out []string
	for _, body := range bodies {
		out = append(out, head+body+" ]")
	}
	return out
}

// TestAllShortTexts tries every sequence of up to seven words: those that are read are those that a process has.
func TestAllShortTexts(t *testing.T) {
	words := []string{"yield", "wait", "in", "if", "[", "]", "0", "-"}
	valid := map[string]bool{"-": true}
	for n := 1; n <= 7; n++ {
		for _, text := range shortTexts(n, 3, false) {
			valid[text[1:]] = true
		}
	}
	read := 0
	for many, n := len(words), 1; n <= 7; many, n = many*len(words), n+1 {
		for i := range many {
			parts := make([]string, n)
			for at := range parts {
				parts[at] = words[i%len(words)]
				i /= len(words)
			}
			text := strings.Join(parts, " ")
			_, ok := impl.StmtsRead(text)
			if ok != valid[text] {
				t.Fatalf("%q is read: %v", text, ok)
			}
			if ok {
				read++
			}
		}
	}
	if read != len(valid) {
		t.Errorf("%d texts are read, not %d", read, len(valid))
	}
}
