// Package value is layer 1: SQL values, their order, their arithmetic and three-valued logic. See shared/doc/01-value.md.
package value

import (
	"cmp"
	"math"

	"weathercock/api"
)

// Right reports whether v is valid.
func Right(v api.Value) bool {
	switch v.Kind {
	case api.Null:
		return v.N == 0 && v.S == ""
	case api.Int:
		return v.S == ""
	case api.Bool:
		return (v.N == 0 || v.N == 1) && v.S == ""
	case api.Text:
		return v.N == 0 && len(v.S) <= api.MaxBytes
	}
	return false
}

// Compare returns -1 if a comes before b, 1 if it comes after b, and 0 if they are equal.
// Every field counts, whatever the Kind: so values that are not valid have an order, too.
func Compare(a, b api.Value) int {
	return cmp.Or(order(a.Kind, b.Kind), order(a.N, b.N), order(a.S, b.S))
}

// order compares two numbers, or two strings byte by byte.
func order[T int | string](a, b T) int {
	switch {
	case a < b:
		return -1
	case a > b:
		return 1
	}
	return 0
}

// Add returns a + b.
func Add(a, b api.Value) (api.Value, api.Errno) { return arithmetic(api.OpAdd, a, b) }

// Sub returns a - b.
func Sub(a, b api.Value) (api.Value, api.Errno) { return arithmetic(api.OpSub, a, b) }

// Mul returns a * b.
func Mul(a, b api.Value) (api.Value, api.Errno) { return arithmetic(api.OpMul, a, b) }

// Div returns a / b, truncated towards 0.
func Div(a, b api.Value) (api.Value, api.Errno) { return arithmetic(api.OpDiv, a, b) }

// Neg returns -a.
func Neg(a api.Value) (api.Value, api.Errno) { return arithmetic(api.OpSub, number(0), a) }

// Test returns whether the comparison op holds between a and b.
func Test(op int, a, b api.Value) (api.Value, api.Errno) {
	null := isNull(a) || isNull(b)
	switch {
	case op < api.OpEq || op > api.OpGe, !Right(a) || !Right(b), !null && a.Kind != b.Kind:
		return api.Value{}, api.ErrArg
	case null:
		return api.Value{}, api.OK
	case holds(op, Compare(a, b)):
		return truth(1), api.OK
	}
	return truth(0), api.OK
}

// And returns false if an argument is false, else Null if one is Null, else true.
func And(a, b api.Value) (api.Value, api.Errno) { return connect(truth(0), truth(1), a, b) }

// Or returns true if an argument is true, else Null if one is Null, else false.
func Or(a, b api.Value) (api.Value, api.Errno) { return connect(truth(1), truth(0), a, b) }

// Not returns the opposite of a, and Null for Null.
func Not(a api.Value) (api.Value, api.Errno) {
	switch {
	case !nullOr(api.Bool, a):
		return api.Value{}, api.ErrArg
	case isNull(a):
		return api.Value{}, api.OK
	}
	return truth(1 - a.N), api.OK
}

// arithmetic applies one of OpAdd, OpSub, OpMul and OpDiv to values.
func arithmetic(op int, a, b api.Value) (api.Value, api.Errno) {
	switch {
	case !nullOr(api.Int, a) || !nullOr(api.Int, b):
		return api.Value{}, api.ErrArg
	case isNull(a) || isNull(b):
		return api.Value{}, api.OK
	case op == api.OpDiv && b.N == 0:
		return api.Value{}, api.ErrZero
	}
	n, fits := compute(op, a.N, b.N)
	if !fits {
		return api.Value{}, api.ErrOver
	}
	return number(n), api.OK
}

// compute applies op to numbers, and reports whether the result fits; b is not 0 for OpDiv.
func compute(op, a, b int) (n int, fits bool) {
	switch op {
	case api.OpAdd:
		n = a + b
		return n, (n > a) == (b > 0)
	case api.OpSub:
		n = a - b
		return n, (n < a) == (b > 0)
	case api.OpMul:
		return multiply(a, b)
	case api.OpDiv:
		// The one quotient that does not fit wraps round without a panic.
		return a / b, a != math.MinInt || b != -1
	}
	return 0, false
}

// multiply returns a * b, and reports whether it fits.
func multiply(a, b int) (int, bool) {
	if a == 0 || b == 0 {
		return 0, true
	}
	n := a * b
	// Dividing back is not enough: the smallest number times -1 wraps round to itself, and so does its quotient.
	return n, n/b == a && (n < 0) == ((a < 0) != (b < 0))
}

// holds reports whether the result c of a comparison satisfies op.
func holds(op, c int) bool {
	switch op {
	case api.OpEq:
		return c == 0
	case api.OpNe:
		return c != 0
	case api.OpLt:
		return c < 0
	case api.OpLe:
		return c <= 0
	case api.OpGt:
		return c > 0
	case api.OpGe:
		return c >= 0
	}
	return false
}

// connect returns decisive if an argument is that, else Null if one is Null, else other.
func connect(decisive, other, a, b api.Value) (api.Value, api.Errno) {
	switch {
	case !nullOr(api.Bool, a) || !nullOr(api.Bool, b):
		return api.Value{}, api.ErrArg
	case a == decisive || b == decisive:
		return decisive, api.OK
	case isNull(a) || isNull(b):
		return api.Value{}, api.OK
	}
	return other, api.OK
}

// nullOr reports whether v is valid, and Null or of that kind.
func nullOr(kind int, v api.Value) bool {
	return Right(v) && (isNull(v) || v.Kind == kind)
}

func isNull(v api.Value) bool { return v.Kind == api.Null }

func number(n int) api.Value { return api.Value{Kind: api.Int, N: n} }

func truth(n int) api.Value { return api.Value{Kind: api.Bool, N: n} }
