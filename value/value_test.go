package value_test

import (
	"math"
	"math/big"
	"strings"
	"testing"

	"weathercock/api"
	"weathercock/value"
)

type unary = func(a api.Value) (api.Value, api.Errno)
type binary = func(a, b api.Value) (api.Value, api.Errno)

var null = api.Value{}

func num(n int) api.Value { return api.Value{Kind: api.Int, N: n} }

func truth(b bool) api.Value {
	if b {
		return api.Value{Kind: api.Bool, N: 1}
	}
	return api.Value{Kind: api.Bool}
}

func text(s string) api.Value { return api.Value{Kind: api.Text, S: s} }

// numbers are those at which a sum, a product or a quotient begins not to fit, and common ones.
func numbers() []int {
	return []int{
		math.MinInt, math.MinInt + 1, math.MinInt / 2, -1 << 32, -3037000500, -1 << 31, -7, -3, -2, -1,
		0, 1, 2, 3, 7, 1 << 31, 3037000499, 3037000500, 1 << 32, math.MaxInt/2 + 1, math.MaxInt - 1, math.MaxInt,
	}
}

// ascending are valid values, each before the next one.
func ascending() []api.Value {
	l := []api.Value{null}
	for _, n := range numbers() {
		l = append(l, num(n))
	}
	l = append(l, truth(false), truth(true))
	for _, s := range []string{
		"", "\x00", "\x00a", "A", "Z", "a", "a\x00", "aa", "ab", "b", "\x7f", "\x80", "é", "é1", "\xff",
		"\xff" + strings.Repeat("x", 38), "\xff" + strings.Repeat("x", 39),
	} {
		l = append(l, text(s))
	}
	return l
}

// wrong are values that are not valid, each in one way.
func wrong() []api.Value {
	return []api.Value{
		{Kind: -1}, {Kind: 4}, {Kind: math.MinInt}, {Kind: math.MaxInt},
		{N: 1}, {N: -1}, {S: "a"},
		{Kind: api.Int, S: "a"}, {Kind: api.Int, N: 5, S: "5"},
		{Kind: api.Bool, N: 2}, {Kind: api.Bool, N: -1}, {Kind: api.Bool, S: "a"}, {Kind: api.Bool, N: 1, S: "a"},
		{Kind: api.Text, N: 1}, {Kind: api.Text, N: -1, S: "a"},
		text(strings.Repeat("a", api.MaxBytes+1)), text(strings.Repeat("é", api.MaxBytes/2+1)),
		text(strings.Repeat("a", 1000)),
	}
}

// hold checks an answer: with an error, the value must be the zero value.
func hold(t *testing.T, name string, v api.Value, e api.Errno, want api.Value, wantE api.Errno, args ...any) {
	t.Helper()
	if v != want || e != wantE {
		t.Errorf("%s%v: %v, %v; want %v, %v", name, args, v, e, want, wantE)
	}
}

// TestRight: P1.1, Right.
func TestRight(t *testing.T) {
	for _, v := range ascending() {
		if !value.Right(v) {
			t.Error("valid", v)
		}
	}
	for _, v := range wrong() {
		if value.Right(v) {
			t.Error("not valid", v)
		}
	}
	for n, want := range map[int]bool{0: true, 1: true, api.MaxBytes - 1: true, api.MaxBytes: true, api.MaxBytes + 1: false} {
		if value.Right(text(strings.Repeat("z", n))) != want {
			t.Error("bytes", n)
		}
	}
}

// TestCompareValid: P1.1 and P1.4, the order of valid values, and 0 only for identical ones.
func TestCompareValid(t *testing.T) {
	l := ascending()
	for i, a := range l {
		for k, b := range l {
			want := 0
			if i < k {
				want = -1
			} else if i > k {
				want = 1
			}
			if got := value.Compare(a, b); got != want {
				t.Error(a, b, got, want)
			}
		}
	}
}

// TestCompareWrong: P1.1, the order of values that are not valid: by Kind, then N, then S.
func TestCompareWrong(t *testing.T) {
	var l []api.Value
	for _, kind := range []int{math.MinInt, -1, 0, 1, 2, 3, 4, math.MaxInt} {
		for _, n := range []int{math.MinInt, -1, 0, 1, 2, math.MaxInt} {
			for _, s := range []string{"", "a", "ab", "b", strings.Repeat("b", 50), "\x80"} {
				l = append(l, api.Value{Kind: kind, N: n, S: s})
			}
		}
	}
	for i, a := range l {
		for k, b := range l {
			want := 0
			if i < k {
				want = -1
			} else if i > k {
				want = 1
			}
			if got := value.Compare(a, b); got != want {
				t.Fatal(a, b, got, want)
			}
		}
	}
}

// exact answers what op makes of two numbers, reckoned with numbers of any size.
func exact(op, a, b int) (api.Value, api.Errno) {
	x, y, z := big.NewInt(int64(a)), big.NewInt(int64(b)), new(big.Int)
	switch op {
	case api.OpAdd:
		z.Add(x, y)
	case api.OpSub:
		z.Sub(x, y)
	case api.OpMul:
		z.Mul(x, y)
	case api.OpDiv:
		if b == 0 {
			return null, api.ErrZero
		}
		z.Quo(x, y)
	}
	if !z.IsInt64() {
		return null, api.ErrOver
	}
	return num(int(z.Int64())), api.OK
}

type reckoning struct {
	op   int
	name string
	f    binary
}

func reckonings() []reckoning {
	return []reckoning{
		{api.OpAdd, "Add", value.Add}, {api.OpSub, "Sub", value.Sub},
		{api.OpMul, "Mul", value.Mul}, {api.OpDiv, "Div", value.Div},
	}
}

// TestNumbers: P1.2, numbers, their ends, and 0.
func TestNumbers(t *testing.T) {
	all := numbers()
	for n := -20; n <= 20; n++ {
		all = append(all, n)
	}
	for _, r := range reckonings() {
		for _, a := range all {
			for _, b := range all {
				want, wantE := exact(r.op, a, b)
				v, e := r.f(num(a), num(b))
				hold(t, r.name, v, e, want, wantE, a, b)
			}
		}
	}
	for _, a := range all {
		want, wantE := exact(api.OpSub, 0, a)
		v, e := value.Neg(num(a))
		hold(t, "Neg", v, e, want, wantE, a)
	}
}

// TestNumbersEdges: P1.2, the edges by their numbers.
func TestNumbersEdges(t *testing.T) {
	for _, c := range []struct {
		f    binary
		a, b int
		want api.Value
		e    api.Errno
	}{
		{value.Add, math.MaxInt, 1, null, api.ErrOver},
		{value.Add, math.MaxInt, 0, num(math.MaxInt), api.OK},
		{value.Add, math.MinInt, math.MaxInt, num(-1), api.OK},
		{value.Sub, 0, math.MinInt, null, api.ErrOver},
		{value.Sub, math.MinInt, math.MinInt, num(0), api.OK},
		{value.Mul, math.MinInt, -1, null, api.ErrOver},
		{value.Mul, -1, math.MinInt, null, api.ErrOver},
		{value.Mul, math.MinInt, 1, num(math.MinInt), api.OK},
		{value.Mul, 1 << 32, 1 << 32, null, api.ErrOver},
		{value.Div, math.MinInt, -1, null, api.ErrOver},
		{value.Div, math.MinInt, 1, num(math.MinInt), api.OK},
		{value.Div, math.MinInt, 0, null, api.ErrZero},
		{value.Div, -7, 2, num(-3), api.OK},
		{value.Div, 7, -2, num(-3), api.OK},
		{value.Div, -7, -2, num(3), api.OK},
		{value.Div, -1, 2, num(0), api.OK},
		{value.Div, 0, 0, null, api.ErrZero},
	} {
		v, e := c.f(num(c.a), num(c.b))
		hold(t, "edge", v, e, c.want, c.e, c.a, c.b)
	}
}

// TestNumbersNull: P1.2, NULL goes ahead of a division by 0.
func TestNumbersNull(t *testing.T) {
	for _, r := range reckonings() {
		for _, b := range []api.Value{null, num(0), num(1), num(math.MinInt), num(math.MaxInt)} {
			v, e := r.f(null, b)
			hold(t, r.name, v, e, null, api.OK, null, b)
			v, e = r.f(b, null)
			hold(t, r.name, v, e, null, api.OK, b, null)
		}
	}
	v, e := value.Neg(null)
	hold(t, "Neg", v, e, null, api.OK, null)
}

// refuses checks that f answers ErrArg for each of bad, on each side, whatever the other side is.
func refuses(t *testing.T, name string, f binary, bad []api.Value) {
	t.Helper()
	others := append(append([]api.Value{null, num(0), num(3), truth(false), truth(true), text("")}, wrong()...), bad...)
	for _, a := range bad {
		for _, b := range others {
			v, e := f(a, b)
			hold(t, name, v, e, null, api.ErrArg, a, b)
			v, e = f(b, a)
			hold(t, name, v, e, null, api.ErrArg, b, a)
		}
	}
}

// TestNumbersWrong: P1.2, neither NULL nor an Int, or not valid: ahead of NULL and of a division by 0.
func TestNumbersWrong(t *testing.T) {
	bad := append(wrong(), truth(false), truth(true), text(""), text("1"))
	for _, r := range reckonings() {
		refuses(t, r.name, r.f, bad)
	}
	for _, a := range bad {
		v, e := value.Neg(a)
		hold(t, "Neg", v, e, null, api.ErrArg, a)
	}
}

func comparisons() []int {
	return []int{api.OpEq, api.OpNe, api.OpLt, api.OpLe, api.OpGt, api.OpGe}
}

// satisfied says which of the comparisons hold of the places i and k in an order.
func satisfied(op, i, k int) bool {
	return map[int]bool{
		api.OpEq: i == k, api.OpNe: i != k, api.OpLt: i < k, api.OpLe: i <= k, api.OpGt: i > k, api.OpGe: i >= k,
	}[op]
}

// TestTest: P1.3, comparisons of all valid values.
func TestTest(t *testing.T) {
	l := ascending()
	for _, op := range comparisons() {
		for i, a := range l {
			for k, b := range l {
				want, wantE := truth(satisfied(op, i, k)), api.OK
				if a == null || b == null {
					want = null
				} else if a.Kind != b.Kind {
					want, wantE = null, api.ErrArg
				}
				v, e := value.Test(op, a, b)
				hold(t, "Test", v, e, want, wantE, op, a, b)
			}
		}
	}
}

// TestTestWrong: P1.3, other operations, and values that are not valid, beside NULL too.
func TestTestWrong(t *testing.T) {
	ops := []int{math.MinInt, -1, 0, api.OpNeg, api.OpAnd, api.OpOr, api.OpNot, api.OpIs, 256 + api.OpEq, math.MaxInt}
	for _, op := range ops {
		for _, a := range []api.Value{null, num(1), truth(true), text("a")} {
			for _, b := range []api.Value{null, a} {
				v, e := value.Test(op, a, b)
				hold(t, "Test", v, e, null, api.ErrArg, op, a, b)
			}
		}
	}
	for _, op := range comparisons() {
		refuses(t, "Test", func(a, b api.Value) (api.Value, api.Errno) { return value.Test(op, a, b) }, wrong())
	}
}

// TestLogic: P1.3, all of the three-valued logic.
func TestLogic(t *testing.T) {
	no, yes := truth(false), truth(true)
	for _, c := range []struct{ a, b, and, or api.Value }{
		{no, no, no, no}, {no, null, no, null}, {no, yes, no, yes},
		{null, no, no, null}, {null, null, null, null}, {null, yes, null, yes},
		{yes, no, no, yes}, {yes, null, null, yes}, {yes, yes, yes, yes},
	} {
		v, e := value.And(c.a, c.b)
		hold(t, "And", v, e, c.and, api.OK, c.a, c.b)
		v, e = value.Or(c.a, c.b)
		hold(t, "Or", v, e, c.or, api.OK, c.a, c.b)
	}
	for _, c := range []struct{ a, not api.Value }{{no, yes}, {null, null}, {yes, no}} {
		v, e := value.Not(c.a)
		hold(t, "Not", v, e, c.not, api.OK, c.a)
	}
}

// TestLogicWrong: P1.3, neither NULL nor a Bool, or not valid, beside a value that decides too.
func TestLogicWrong(t *testing.T) {
	bad := append(wrong(), num(0), num(1), text(""), text("a"))
	refuses(t, "And", value.And, bad)
	refuses(t, "Or", value.Or, bad)
	for _, a := range bad {
		v, e := value.Not(a)
		hold(t, "Not", v, e, null, api.ErrArg, a)
	}
}

// TestTotalOrder: P1.4, the order is total: one way round or the other, and passed on.
func TestTotalOrder(t *testing.T) {
	l := append(ascending(), wrong()...)
	for _, a := range l {
		for _, b := range l {
			ab := value.Compare(a, b)
			if ab != -value.Compare(b, a) || (ab == 0) != (a == b) {
				t.Error(a, b, ab)
			}
			for _, c := range l {
				if ab <= 0 && value.Compare(b, c) <= 0 && value.Compare(a, c) > 0 {
					t.Error(a, b, c)
				}
			}
		}
	}
}

// must gives a value that comes without an error.
func must(t *testing.T) func(v api.Value, e api.Errno) api.Value {
	return func(v api.Value, e api.Errno) api.Value {
		t.Helper()
		if e != api.OK {
			t.Error(e)
		}
		return v
	}
}

// TestLaws: P1.4, Not over And and Or; And and Or in any order.
func TestLaws(t *testing.T) {
	ok, l := must(t), []api.Value{null, truth(false), truth(true)}
	for _, a := range l {
		for _, b := range l {
			notA, notB := ok(value.Not(a)), ok(value.Not(b))
			if ok(value.Not(ok(value.And(a, b)))) != ok(value.Or(notA, notB)) {
				t.Error("Not of And", a, b)
			}
			for name, f := range map[string]binary{"And": value.And, "Or": value.Or} {
				anyOrder(t, name, f, a, b, l)
			}
		}
	}
}

// anyOrder checks that f may take its arguments either way round, and three of them from either end.
func anyOrder(t *testing.T, name string, f binary, a, b api.Value, l []api.Value) {
	t.Helper()
	ok := must(t)
	if ok(f(a, b)) != ok(f(b, a)) {
		t.Error(name, a, b)
	}
	for _, c := range l {
		if ok(f(ok(f(a, b)), c)) != ok(f(a, ok(f(b, c)))) {
			t.Error(name, a, b, c)
		}
	}
}

// TestSound: P1 and P2, every call ends for all arguments, and answers a valid value, NULL beside an error; P4, twice the same.
func TestSound(t *testing.T) {
	l := append(ascending(), wrong()...)
	twos := []binary{value.Add, value.Sub, value.Mul, value.Div, value.And, value.Or}
	for op := -2; op <= 25; op++ {
		twos = append(twos, func(a, b api.Value) (api.Value, api.Errno) { return value.Test(op, a, b) })
	}
	for _, a := range l {
		for _, f := range []unary{value.Neg, value.Not} {
			sound(t, func() (api.Value, api.Errno) { return f(a) }, a)
		}
		for _, b := range l {
			for _, f := range twos {
				sound(t, func() (api.Value, api.Errno) { return f(a, b) }, a, b)
			}
		}
	}
}

func sound(t *testing.T, f func() (api.Value, api.Errno), args ...api.Value) {
	t.Helper()
	v, e := f()
	again, againE := f()
	if !value.Right(v) || e != api.OK && v != null || v != again || e != againE {
		t.Error(args, v, e, again, againE)
	}
}
