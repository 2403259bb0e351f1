package impl

// Bounds of numbers, and what can be done with two.
const (
	NumMost = 999
	NumAdd  = 1
	NumSub  = 2
	NumMul  = 3
	NumLess = 4
	NumSame = 5
)

// number is what a register or a cell holds, or a result that is still to be cut to that.
type number int

// operation combines two numbers that are within the bounds.
type operation func(a number, b number) number

// NumOk reports whether n is one that a register or a cell can hold.
func NumOk(n int) bool { return number(n).within() }

// NumCut returns n, or the end of the interval that n is past.
func NumCut(n int) int { return int(number(n).cut()) }

// NumDo applies an operation to two numbers; false if op is none, or a or b is no number.
func NumDo(op int, a int, b int) (int, bool) {
	do, known := operationOf(op)
	if !known || !NumOk(a) || !NumOk(b) {
		return 0, false
	}
	return int(do(number(a), number(b))), true
}

// operationOf finds the function of an op, or reports that there is none.
func operationOf(op int) (operation, bool) {
	// A function builds the table because no functions are kept at package level.
	table := [...]operation{
		NumAdd:  number.plus,
		NumSub:  number.minus,
		NumMul:  number.times,
		NumLess: number.less,
		NumSame: number.same,
	}
	if op < NumAdd || op >= len(table) {
		return nil, false
	}
	return table[op], true
}

func (n number) within() bool { return -NumMost <= n && n <= NumMost }

func (n number) cut() number {
	switch {
	case n > NumMost:
		return NumMost
	case n < -NumMost:
		return -NumMost
	}
	return n
}

// Cutting after the operation is enough here and below: both operands are
// within the bounds, so that not even their product wraps around.
func (n number) plus(other number) number { return (n + other).cut() }

func (n number) minus(other number) number { return (n - other).cut() }

func (n number) times(other number) number { return (n * other).cut() }

func (n number) less(other number) number { return oneIf(n < other) }

func (n number) same(other number) number { return oneIf(n == other) }

// oneIf is the number that stands for a truth.
func oneIf(truth bool) number {
	if truth {
		return 1
	}
	return 0
}
