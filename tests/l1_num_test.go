package tests

import (
	"math"
	"testing"

	"loop.example/changeringer/impl"
)

// These tests hold promise 1: results saturate at both ends.

var outside = []int{1000, -1000, 1001, -1001, 1 << 20, -1 << 20, math.MaxInt32, math.MinInt32, math.MaxInt, math.MinInt, math.MaxInt - 999, math.MinInt + 999}

func TestNumLimitsAndOps(t *testing.T) {
	got := [...]int{impl.NumMost, impl.NumAdd, impl.NumSub, impl.NumMul, impl.NumLess, impl.NumSame}
	if got != [...]int{999, 1, 2, 3, 4, 5} {
		t.Error(got)
	}
}

func TestNumOkAcceptsTheInterval(t *testing.T) {
	for n := -999; n <= 999; n++ {
		if !impl.NumOk(n) {
			t.Errorf("NumOk(%d) is false", n)
		}
	}
	for _, n := range outside {
		if impl.NumOk(n) {
			t.Errorf("NumOk(%d) is true", n)
		}
	}
}

func TestNumCutKeepsTheInterval(t *testing.T) {
	for n := -999; n <= 999; n++ {
		if x := impl.NumCut(n); x != n {
			t.Errorf("NumCut(%d) is %d", n, x)
		}
	}
	for _, n := range outside {
		want := 999
		if n < 0 {
			want = -999
		}
		if x := impl.NumCut(n); x != want {
			t.Errorf("NumCut(%d) is %d, not %d", n, x, want)
		}
	}
}

type numCase struct{ op, a, b, want int }

func checkNumCases(t *testing.T, cases []numCase) {
	t.Helper()
	for _, c := range cases {
		if x, ok := impl.NumDo(c.op, c.a, c.b); !ok || x != c.want {
			t.Errorf("NumDo(%d, %d, %d) is %d, %v, not %d", c.op, c.a, c.b, x, ok, c.want)
		}
	}
}

func TestNumDoOrdinary(t *testing.T) {
	checkNumCases(t, []numCase{
		{impl.NumAdd, 3, 4, 7}, {impl.NumAdd, -3, 4, 1}, {impl.NumAdd, -3, -4, -7}, {impl.NumAdd, 0, 0, 0},
		{impl.NumSub, 3, 4, -1}, {impl.NumSub, 4, 3, 1}, {impl.NumSub, -3, -4, 1}, {impl.NumSub, 3, -4, 7},
		{impl.NumMul, 3, 4, 12}, {impl.NumMul, -3, 4, -12}, {impl.NumMul, -3, -4, 12}, {impl.NumMul, 0, 7, 0},
		{impl.NumLess, 3, 4, 1}, {impl.NumLess, 4, 3, 0}, {impl.NumLess, -4, -3, 1}, {impl.NumLess, -3, -4, 0},
		{impl.NumSame, 3, 4, 0}, {impl.NumSame, 4, 4, 1}, {impl.NumSame, -4, -4, 1}, {impl.NumSame, 4, -4, 0},
	})
}

func TestNumAddSaturates(t *testing.T) {
	checkNumCases(t, []numCase{
		{impl.NumAdd, 900, 200, 999},
		{impl.NumAdd, 997, 1, 998}, {impl.NumAdd, 998, 1, 999}, {impl.NumAdd, 999, 1, 999}, {impl.NumAdd, 1, 999, 999},
		{impl.NumAdd, 999, 0, 999}, {impl.NumAdd, 500, 499, 999}, {impl.NumAdd, 500, 500, 999}, {impl.NumAdd, 999, 999, 999},
		{impl.NumAdd, -997, -1, -998}, {impl.NumAdd, -998, -1, -999}, {impl.NumAdd, -999, -1, -999}, {impl.NumAdd, -1, -999, -999},
		{impl.NumAdd, -999, 0, -999}, {impl.NumAdd, -500, -499, -999}, {impl.NumAdd, -500, -500, -999}, {impl.NumAdd, -999, -999, -999},
		{impl.NumAdd, 999, -999, 0}, {impl.NumAdd, -999, 999, 0}, {impl.NumAdd, 999, -1, 998}, {impl.NumAdd, -999, 1, -998},
	})
}

func TestNumSubSaturates(t *testing.T) {
	checkNumCases(t, []numCase{
		{impl.NumSub, 997, -1, 998}, {impl.NumSub, 998, -1, 999}, {impl.NumSub, 999, -1, 999}, {impl.NumSub, 999, -999, 999},
		{impl.NumSub, -997, 1, -998}, {impl.NumSub, -998, 1, -999}, {impl.NumSub, -999, 1, -999}, {impl.NumSub, -999, 999, -999},
		{impl.NumSub, 0, 999, -999}, {impl.NumSub, 0, -999, 999}, {impl.NumSub, -1, 999, -999}, {impl.NumSub, 1, -999, 999},
		{impl.NumSub, 999, 999, 0}, {impl.NumSub, -999, -999, 0}, {impl.NumSub, 999, 1, 998}, {impl.NumSub, -999, -1, -998},
	})
}

func TestNumMulSaturates(t *testing.T) {
	checkNumCases(t, []numCase{
		{impl.NumMul, 499, 2, 998}, {impl.NumMul, 333, 3, 999}, {impl.NumMul, 27, 37, 999}, {impl.NumMul, 500, 2, 999}, {impl.NumMul, 25, 40, 999},
		{impl.NumMul, 499, -2, -998}, {impl.NumMul, -333, 3, -999}, {impl.NumMul, 27, -37, -999}, {impl.NumMul, -500, 2, -999}, {impl.NumMul, 25, -40, -999},
		{impl.NumMul, 999, 1, 999}, {impl.NumMul, 999, -1, -999}, {impl.NumMul, -999, -1, 999}, {impl.NumMul, 999, 0, 0}, {impl.NumMul, 0, -999, 0},
		{impl.NumMul, 999, 999, 999}, {impl.NumMul, -999, -999, 999}, {impl.NumMul, 999, -999, -999}, {impl.NumMul, -999, 999, -999},
		{impl.NumMul, 256, 256, 999}, {impl.NumMul, 256, -256, -999}, {impl.NumMul, 512, 128, 999}, {impl.NumMul, -2, -500, 999},
	})
}

func TestNumLessAndSameAtTheEnds(t *testing.T) {
	for _, a := range []int{-999, -998, -1, 0, 1, 998, 999} {
		for _, b := range []int{-999, -998, -1, 0, 1, 998, 999} {
			less, same := 0, 0
			if a < b {
				less = 1
			}
			if a == b {
				same = 1
			}
			checkNumCases(t, []numCase{{impl.NumLess, a, b, less}, {impl.NumSame, a, b, same}})
		}
	}
}

// clamp is written apart from the program, so that both would have to be wrong in the same way.
func clamp(n int) int { return max(-999, min(n, 999)) }

func TestNumDoOfAllPairs(t *testing.T) {
	for a := -999; a <= 999; a++ {
		for b := -999; b <= 999; b++ {
			sum, ok1 := impl.NumDo(impl.NumAdd, a, b)
			difference, ok2 := impl.NumDo(impl.NumSub, a, b)
			product, ok3 := impl.NumDo(impl.NumMul, a, b)
			if !ok1 || !ok2 || !ok3 || sum != clamp(a+b) || difference != clamp(a-b) || product != clamp(a*b) {
				t.Fatalf("%d and %d: %d, %d, %d", a, b, sum, difference, product)
			}
		}
	}
}

func checkNoResult(t *testing.T, op, a, b int) {
	t.Helper()
	if x, ok := impl.NumDo(op, a, b); ok || x != 0 {
		t.Errorf("NumDo(%d, %d, %d) is %d, %v", op, a, b, x, ok)
	}
}

func TestNumDoUnknownOp(t *testing.T) {
	for _, op := range []int{0, 6, 7, -1, -5, 100, math.MaxInt, math.MinInt} {
		for _, n := range []int{0, 1, 5, 999, -999} {
			checkNoResult(t, op, n, n)
			checkNoResult(t, op, n, 2)
		}
		checkNoResult(t, op, 1000, 1)
	}
}

func TestNumDoOfNoNumber(t *testing.T) {
	for op := impl.NumAdd; op <= impl.NumSame; op++ {
		for _, n := range outside {
			for _, m := range []int{-999, -1, 0, 1, 999} {
				checkNoResult(t, op, n, m)
				checkNoResult(t, op, m, n)
			}
			checkNoResult(t, op, n, n)
			checkNoResult(t, op, n, -n)
		}
	}
}
