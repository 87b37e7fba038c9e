package sign_test

import (
	"math"
	"slices"
	"strings"
	"testing"

	"weathercock/api"
	"weathercock/expr"
	"weathercock/sign"
)

func ref(rel, col int) api.Expr { return api.Expr{Op: api.OpRef, Rel: rel, Col: col} }

func number(n int) api.Expr {
	return api.Expr{Op: api.OpConst, V: api.Value{Kind: api.Int, N: n}}
}

func word(s string) api.Expr {
	return api.Expr{Op: api.OpConst, V: api.Value{Kind: api.Text, S: s}}
}

func truth(n int) api.Expr {
	return api.Expr{Op: api.OpConst, V: api.Value{Kind: api.Bool, N: n}}
}

func param(n int) api.Expr { return api.Expr{Op: api.OpParam, N: n} }

func null() api.Expr { return api.Expr{Op: api.OpConst} }

func of(op int, l ...api.Expr) api.Expr { return api.Expr{Op: op, L: l} }

// deep has the depth n.
func deep(n int) api.Expr {
	e := ref(0, 0)
	for range n - 1 {
		e = of(api.OpNot, e)
	}
	return e
}

// wide has n operations, an odd number.
func wide(n int) api.Expr {
	if n == 1 {
		return ref(1, 0)
	}
	left := n / 4 * 2
	return of(api.OpGt, wide(n-left-2), wide(left+1))
}

// endless contains itself.
func endless() api.Expr {
	l := make([]api.Expr, 2)
	e := of(api.OpAnd, l...)
	l[0], l[1] = e, e
	return e
}

// wrong are expressions that are not valid, each for another reason.
func wrong() []api.Expr {
	return []api.Expr{
		{}, of(0), of(-1), of(19), {Op: api.OpName, V: api.Value{Kind: api.Text, S: "a"}}, of(api.OpAdd), of(api.OpAdd, number(1)), of(api.OpEq, number(1), number(2), number(3)), of(api.OpNot), of(api.OpIs, null(), null()),
		{Op: api.OpConst, V: api.Value{Kind: 4}}, {Op: api.OpConst, V: api.Value{N: 1}}, word(strings.Repeat("x", api.MaxBytes+1)), {Op: api.OpConst, L: []api.Expr{number(1)}},
		ref(16, 0), ref(-1, 0), ref(0, api.MaxCols), ref(0, -1), ref(math.MaxInt, 0), param(0), param(api.MaxParams + 1), {Op: api.OpParam, N: 1, S: "x"}, {Op: api.OpConst, Rel: 1},
		{Op: api.OpAnd, Rel: 1, L: []api.Expr{ref(0, 0), ref(0, 0)}}, of(api.OpGt, ref(0, 0), of(api.OpNeg)), deep(api.MaxDepth + 1), wide(201), endless(),
	}
}

func text(t *testing.T, e api.Expr) string {
	t.Helper()
	s, err := expr.Text(e)
	if err != api.OK {
		t.Fatal(e, err)
	}
	return s
}

// TestNormal: P12.1, the normal forms, written by hand.
func TestNormal(t *testing.T) {
	a, b := ref(0, 0), ref(1, 0)
	for _, x := range []struct {
		e    api.Expr
		want string
	}{
		{number(-5), "I-5"}, {null(), "N"}, {truth(1), "B1"}, {word("b a"), "T3:b a"}, {b, "R1.0"}, {param(2), "P2"},
		{of(api.OpGt, b, number(5)), "(11 I5 R1.0)"}, {of(api.OpGt, number(5), b), "(11 R1.0 I5)"}, {of(api.OpGt, a, a), "(11 R0.0 R0.0)"},
		{of(api.OpGe, b, number(5)), "(12 I5 R1.0)"}, {of(api.OpGe, number(5), b), "(12 R1.0 I5)"},
		{of(api.OpLt, b, a), "(11 R1.0 R0.0)"}, {of(api.OpLt, a, b), "(11 R0.0 R1.0)"}, {of(api.OpLe, b, a), "(12 R1.0 R0.0)"}, {of(api.OpLe, a, b), "(12 R0.0 R1.0)"},
		{of(api.OpAdd, b, a), "(4 R0.0 R1.0)"}, {of(api.OpAdd, a, b), "(4 R0.0 R1.0)"}, {of(api.OpMul, b, a), "(6 R0.0 R1.0)"}, {of(api.OpMul, a, b), "(6 R0.0 R1.0)"},
		{of(api.OpEq, b, a), "(9 R0.0 R1.0)"}, {of(api.OpEq, a, b), "(9 R0.0 R1.0)"}, {of(api.OpNe, b, a), "(10 R0.0 R1.0)"}, {of(api.OpNe, a, b), "(10 R0.0 R1.0)"},
		{of(api.OpAnd, b, a), "(15 R0.0 R1.0)"}, {of(api.OpAnd, a, b), "(15 R0.0 R1.0)"}, {of(api.OpOr, b, a), "(16 R0.0 R1.0)"}, {of(api.OpOr, a, b), "(16 R0.0 R1.0)"},
		{of(api.OpSub, b, a), "(5 R1.0 R0.0)"}, {of(api.OpSub, a, b), "(5 R0.0 R1.0)"}, {of(api.OpDiv, b, a), "(7 R1.0 R0.0)"}, {of(api.OpDiv, a, b), "(7 R0.0 R1.0)"},
		{of(api.OpNeg, of(api.OpAdd, b, a)), "(8 (4 R0.0 R1.0))"}, {of(api.OpNot, of(api.OpGt, b, a)), "(17 (11 R0.0 R1.0))"}, {of(api.OpIs, of(api.OpMul, b, a)), "(18 (6 R0.0 R1.0))"},
	} {
		if e, err := sign.Normal(x.e); err != api.OK || text(t, e) != x.want {
			t.Error(text(t, x.e), text(t, e), err, x.want)
		}
	}
}

// TestTexts: P12.1, it is the Texts of the operands, byte by byte, and of their normal forms, that are compared; nothing else of them.
func TestTexts(t *testing.T) {
	a, b := ref(0, 0), ref(1, 0)
	for _, x := range []struct {
		e    api.Expr
		want string
	}{
		{of(api.OpEq, number(9), number(10)), "(9 I10 I9)"}, {of(api.OpEq, number(10), number(9)), "(9 I10 I9)"}, {of(api.OpAdd, number(1), number(10)), "(4 I1 I10)"}, {of(api.OpAdd, number(10), number(1)), "(4 I1 I10)"},
		{of(api.OpAdd, number(5), number(-5)), "(4 I-5 I5)"}, {of(api.OpAdd, number(-5), number(-6)), "(4 I-5 I-6)"}, {of(api.OpMul, ref(2, 0), ref(10, 0)), "(6 R10.0 R2.0)"}, {of(api.OpMul, ref(1, 3), ref(10, 0)), "(6 R1.3 R10.0)"},
		{of(api.OpEq, word("b"), word("aa")), "(9 T1:b T2:aa)"}, {of(api.OpEq, word("b"), word("a")), "(9 T1:a T1:b)"}, {of(api.OpEq, word("\xff"), word("a")), "(9 T1:a T1:\xff)"}, {of(api.OpEq, null(), number(3)), "(9 I3 N)"},
		{of(api.OpEq, a, param(1)), "(9 P1 R0.0)"}, {of(api.OpOr, null(), truth(0)), "(16 B0 N)"}, {of(api.OpEq, a, of(api.OpAdd, a, b)), "(9 (4 R0.0 R1.0) R0.0)"}, {of(api.OpEq, word(""), a), "(9 R0.0 T0:)"},
		{of(api.OpAnd, of(api.OpSub, a, b), of(api.OpNot, a)), "(15 (17 R0.0) (5 R0.0 R1.0))"}, // 17 is before 5
		{of(api.OpAnd, of(api.OpLe, a, b), of(api.OpGt, a, b)), "(15 (11 R1.0 R0.0) (12 R0.0 R1.0))"},
		{of(api.OpAnd, of(api.OpGt, a, b), of(api.OpLe, a, b)), "(15 (11 R1.0 R0.0) (12 R0.0 R1.0))"},
		{of(api.OpOr, of(api.OpAdd, b, ref(0, 1)), of(api.OpAdd, b, a)), "(16 (4 R0.0 R1.0) (4 R0.1 R1.0))"},
		{of(api.OpOr, of(api.OpAdd, ref(0, 1), number(7)), of(api.OpAdd, a, ref(3, 3))), "(16 (4 I7 R0.1) (4 R0.0 R3.3))"}, // by what is written they were the other way round
		{of(api.OpGt, of(api.OpGt, of(api.OpGe, b, a), null()), of(api.OpLe, b, a)), "(11 (12 R1.0 R0.0) (11 N (12 R0.0 R1.0)))"},
		{of(api.OpMul, of(api.OpAdd, number(2), number(1)), of(api.OpAdd, number(1), number(2))), "(6 (4 I1 I2) (4 I1 I2))"},
	} {
		if e, err := sign.Normal(x.e); err != api.OK || text(t, e) != x.want {
			t.Error(text(t, x.e), text(t, e), err, x.want)
		}
	}
}

// TestGreat: P12.1, the deepest expression, and the one with the most operations.
func TestGreat(t *testing.T) {
	e, err := sign.Normal(deep(api.MaxDepth))
	if err != api.OK || !expr.Same(e, deep(api.MaxDepth)) {
		t.Error(e, err)
	}
	e, err = sign.Normal(wide(199))
	if s := text(t, e); err != api.OK || strings.Count(s, "(11 ") != 99 || strings.Contains(s, "(13 ") {
		t.Error(s, err)
	}
	e, err = sign.Normal(of(api.OpNot, wide(199)))
	if err != api.OK || strings.Count(text(t, e), "(11 ") != 99 {
		t.Error(e, err)
	}
}

// TestWrong: P12.1 and P2, an expression that is not valid has no normal form, alone or among others.
func TestWrong(t *testing.T) {
	for i, x := range wrong() {
		e, err := sign.Normal(x)
		if err != api.ErrArg || e.Op != 0 || e.L != nil || e.V != (api.Value{}) || e.Rel != 0 || e.Col != 0 || e.N != 0 || e.S != "" {
			t.Error(i, e, err)
		}
		for k, l := range [][]api.Expr{{x}, {x, number(1)}, {number(1), x}, {number(1), x, number(2)}} {
			if out, err := sign.Conds(l); err != api.ErrArg || len(out) != 0 {
				t.Error(i, k, out, err)
			}
		}
	}
}

// TestConds: P12.1, the normal forms in ascending order of their Texts, each of them once.
func TestConds(t *testing.T) {
	a, b := ref(0, 0), ref(1, 0)
	for _, x := range []struct {
		l    []api.Expr
		want []string
	}{
		{nil, nil}, {[]api.Expr{}, nil},
		{[]api.Expr{b}, []string{"R1.0"}}, {[]api.Expr{b, a}, []string{"R0.0", "R1.0"}}, {[]api.Expr{a, b}, []string{"R0.0", "R1.0"}}, {[]api.Expr{a, a, a}, []string{"R0.0"}},
		{[]api.Expr{number(9), number(10), number(-1), number(9), number(1)}, []string{"I-1", "I1", "I10", "I9"}},
		{[]api.Expr{of(api.OpGt, b, a), of(api.OpLt, a, b), of(api.OpLt, b, a)}, []string{"(11 R0.0 R1.0)", "(11 R1.0 R0.0)"}},
		{[]api.Expr{of(api.OpEq, b, a), of(api.OpEq, a, b)}, []string{"(9 R0.0 R1.0)"}},
		{[]api.Expr{of(api.OpNot, of(api.OpEq, b, a)), of(api.OpGe, a, a), of(api.OpNot, of(api.OpEq, a, b))}, []string{"(12 R0.0 R0.0)", "(17 (9 R0.0 R1.0))"}},
		{[]api.Expr{of(api.OpLe, a, b), of(api.OpGt, a, b)}, []string{"(11 R1.0 R0.0)", "(12 R0.0 R1.0)"}}, // as they are written they come the other way round, too
		{[]api.Expr{of(api.OpGe, a, b), of(api.OpSub, a, b), of(api.OpGt, b, a)}, []string{"(11 R0.0 R1.0)", "(12 R1.0 R0.0)", "(5 R0.0 R1.0)"}},
		{[]api.Expr{of(api.OpSub, b, a), of(api.OpSub, a, b)}, []string{"(5 R0.0 R1.0)", "(5 R1.0 R0.0)"}}, // nothing else makes two the same
		{[]api.Expr{word("b"), word("aa"), word("a"), word(""), null(), param(3), truth(1), truth(0)}, []string{"B0", "B1", "N", "P3", "T0:", "T1:a", "T1:b", "T2:aa"}},
	} {
		l, err := sign.Conds(x.l)
		var got []string
		for _, e := range l {
			got = append(got, text(t, e))
		}
		if err != api.OK || !slices.Equal(got, x.want) {
			t.Error(got, err, x.want)
		}
	}
}

// TestManyConds: P12.1, a list has no limit of its own.
func TestManyConds(t *testing.T) {
	var l []api.Expr
	for i := range 5000 {
		l = append(l, of(api.OpEq, number(i/2), ref(0, 0)))
	}
	out, err := sign.Conds(l)
	if err != api.OK || len(out) != 2500 || !slices.IsSortedFunc(out, func(a, b api.Expr) int { return strings.Compare(text(t, a), text(t, b)) }) {
		t.Error(len(out), err)
	}
}
