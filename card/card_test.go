package card_test

import (
	"math"
	"strings"
	"testing"

	"weathercock/api"
	"weathercock/card"
)

const most = api.Most

func ref(rel, col int) api.Expr { return api.Expr{Op: api.OpRef, Rel: rel, Col: col} }

func constant(v api.Value) api.Expr { return api.Expr{Op: api.OpConst, V: v} }

func number(n int) api.Expr { return constant(api.Value{Kind: api.Int, N: n}) }

func word(s string) api.Expr { return constant(api.Value{Kind: api.Text, S: s}) }

func truth(n int) api.Expr { return constant(api.Value{Kind: api.Bool, N: n}) }

func null() api.Expr { return constant(api.Value{}) }

func param(n int) api.Expr { return api.Expr{Op: api.OpParam, N: n} }

func of(op int, l ...api.Expr) api.Expr { return api.Expr{Op: op, L: l} }

// unlike is a histogram of so many unlike values and nothing else.
func unlike(n int) api.Hist { return api.Hist{Distinct: n} }

// stepped is a histogram of 8 unlike values, with 10 rows up to 5 and 30 rows up to 9.
func stepped() api.Hist {
	return api.Hist{Distinct: 8, Nulls: 4, Steps: []api.Step{{Upto: number(5).V, Many: 10}, {Upto: number(9).V, Many: 30}}}
}

// stat is that of a table.
func stat(rows int, l ...api.Hist) api.Stat { return api.Stat{Rows: rows, Hists: l} }

// tables is a block of core tables, with conditions.
func tables(l []int, conds ...api.Expr) api.Block {
	return api.Block{Tables: l, Core: len(l), Conds: conds}
}

// deep has the depth n.
func deep(n int) api.Expr {
	e := ref(0, 0)
	for range n - 1 {
		e = of(api.OpNot, e)
	}
	return e
}

// endless contains itself.
func endless() api.Expr {
	l := make([]api.Expr, 2)
	e := of(api.OpEq, l...)
	l[0], l[1] = e, e
	return e
}

// wrong are expressions that are not valid, each for another reason.
func wrong() []api.Expr {
	return []api.Expr{
		{}, of(-1), of(19), of(math.MaxInt), {Op: api.OpName, V: api.Value{Kind: api.Text, S: "a"}},
		of(api.OpEq), of(api.OpEq, ref(0, 0)), of(api.OpEq, ref(0, 0), number(5), number(5)), of(api.OpIs), of(api.OpIs, ref(0, 0), ref(0, 0)),
		of(api.OpEq, ref(0, 0), constant(api.Value{Kind: 4})), of(api.OpEq, ref(0, 0), constant(api.Value{Kind: api.Int, N: 5, S: "x"})), of(api.OpLt, truth(2), ref(0, 0)), of(api.OpEq, ref(0, 0), word(strings.Repeat("x", api.MaxBytes+1))),
		of(api.OpEq, ref(16, 0), number(5)), of(api.OpEq, ref(-1, 0), number(5)), of(api.OpLe, ref(0, api.MaxCols), number(5)), of(api.OpGt, ref(0, -1), number(5)), of(api.OpEq, ref(0, 0), ref(math.MaxInt, 0)),
		of(api.OpIs, ref(16, 0)), of(api.OpIs, ref(0, api.MaxCols)), of(api.OpIs, ref(math.MinInt, math.MinInt)),
		{Op: api.OpEq, Rel: 1, L: []api.Expr{ref(0, 0), number(5)}}, {Op: api.OpIs, S: "x", L: []api.Expr{ref(0, 0)}}, {Op: api.OpIs, N: 1, L: []api.Expr{ref(0, 0)}},
		of(api.OpEq, api.Expr{Op: api.OpRef, N: 1}, number(5)), of(api.OpEq, api.Expr{Op: api.OpRef, L: []api.Expr{number(1)}}, number(5)), deep(api.MaxDepth + 1), endless(),
	}
}

// asked is an expression with the fraction that is expected of it.
type asked struct {
	e        api.Expr
	num, den int
}

func checkParts(t *testing.T, b api.Block, stats []api.Stat, l ...asked) {
	t.Helper()
	for _, c := range l {
		if num, den := card.Part(c.e, b, stats); num != c.num || den != c.den {
			t.Error(c, num, den)
		}
	}
}

// TestPartConstant: P14.1, a column and a constant, in either order.
func TestPartConstant(t *testing.T) {
	b, stats := tables([]int{0}), []api.Stat{stat(100, unlike(3), stepped())}
	a := ref(0, 1)
	checkParts(t, b, stats,
		asked{of(api.OpEq, a, number(5)), 1, 8}, asked{of(api.OpEq, number(5), a), 1, 8}, asked{of(api.OpNe, a, number(5)), 7, 8}, asked{of(api.OpNe, number(5), a), 7, 8},
		asked{of(api.OpLt, a, number(4)), 0, 40}, asked{of(api.OpLt, a, number(5)), 0, 40}, asked{of(api.OpLt, a, number(6)), 10, 40}, asked{of(api.OpLt, a, number(9)), 10, 40}, asked{of(api.OpLt, a, number(10)), 40, 40},
		asked{of(api.OpLe, a, number(4)), 0, 40}, asked{of(api.OpLe, a, number(5)), 10, 40}, asked{of(api.OpLe, a, number(6)), 10, 40}, asked{of(api.OpLe, a, number(9)), 40, 40}, asked{of(api.OpLe, a, number(10)), 40, 40},
		asked{of(api.OpGt, a, number(4)), 40, 40}, asked{of(api.OpGt, a, number(5)), 30, 40}, asked{of(api.OpGt, a, number(9)), 0, 40},
		asked{of(api.OpGe, a, number(4)), 40, 40}, asked{of(api.OpGe, a, number(5)), 40, 40}, asked{of(api.OpGe, a, number(6)), 30, 40}, asked{of(api.OpGe, a, number(9)), 30, 40}, asked{of(api.OpGe, a, number(10)), 0, 40},
		asked{of(api.OpLt, number(4), a), 40, 40}, asked{of(api.OpLt, number(5), a), 30, 40}, asked{of(api.OpLt, number(9), a), 0, 40},
		asked{of(api.OpLe, number(5), a), 40, 40}, asked{of(api.OpLe, number(9), a), 30, 40}, asked{of(api.OpLe, number(10), a), 0, 40},
		asked{of(api.OpGt, number(5), a), 0, 40}, asked{of(api.OpGt, number(6), a), 10, 40}, asked{of(api.OpGt, number(9), a), 10, 40},
		asked{of(api.OpGe, number(4), a), 0, 40}, asked{of(api.OpGe, number(5), a), 10, 40}, asked{of(api.OpGe, number(9), a), 40, 40},
	)
}

// TestPartKinds: P14.1, the constant may be of any kind but Null, whatever the histogram is of.
func TestPartKinds(t *testing.T) {
	h := api.Hist{Distinct: 6, Steps: []api.Step{{Upto: word("b").V, Many: 1}, {Upto: truth(1).V, Many: 2}, {Upto: number(4).V, Many: 4}, {Many: 8}}}
	b, stats, a := tables([]int{0}), []api.Stat{stat(100, h)}, ref(0, 0)
	checkParts(t, b, stats,
		asked{of(api.OpEq, a, word("b")), 1, 6}, asked{of(api.OpEq, word("b"), a), 1, 6}, asked{of(api.OpNe, a, word("")), 5, 6}, asked{of(api.OpLt, a, word("b")), 14, 15}, asked{of(api.OpLt, word("a"), a), 1, 15}, asked{of(api.OpGe, a, word("c")), 0, 15},
		asked{of(api.OpEq, a, truth(0)), 1, 6}, asked{of(api.OpNe, truth(1), a), 5, 6}, asked{of(api.OpLe, a, truth(1)), 14, 15}, asked{of(api.OpGt, truth(1), a), 12, 15}, asked{of(api.OpGe, a, number(4)), 7, 15}, asked{of(api.OpLt, number(math.MinInt), a), 7, 15},
		asked{of(api.OpEq, a, null()), 1, 3}, asked{of(api.OpEq, null(), a), 1, 3}, asked{of(api.OpNe, a, null()), 1, 3}, asked{of(api.OpNe, null(), a), 1, 3},
		asked{of(api.OpLt, a, null()), 1, 3}, asked{of(api.OpLe, null(), a), 1, 3}, asked{of(api.OpGt, a, null()), 1, 3}, asked{of(api.OpGe, null(), a), 1, 3},
	)
}

// TestPartEmpty: P14.1, a column without a histogram has an empty one.
func TestPartEmpty(t *testing.T) {
	for _, stats := range [][]api.Stat{nil, {}, {stat(100)}, {stat(100, []api.Hist{}...)}, {stat(100, stepped(), stepped())}, {stat(100, stepped(), stepped(), api.Hist{})}} {
		checkParts(t, tables([]int{0}), stats,
			asked{of(api.OpEq, ref(0, 2), number(5)), 1, 1}, asked{of(api.OpNe, ref(0, 2), number(5)), 0, 1}, asked{of(api.OpLe, ref(0, 2), number(9)), 0, 1}, asked{of(api.OpGt, ref(0, 2), number(9)), 1, 1},
			asked{of(api.OpLe, number(9), ref(0, 2)), 1, 1}, asked{of(api.OpEq, ref(0, 2), ref(0, 2)), 1, 1},
		)
	}
	// The room behind a list is not of it.
	l := []api.Hist{unlike(7), unlike(8), unlike(9)}
	checkParts(t, tables([]int{0}), []api.Stat{stat(100, l[:2]...)}, asked{of(api.OpEq, ref(0, 1), number(5)), 1, 8}, asked{of(api.OpEq, ref(0, 2), number(5)), 1, 1})
}

// TestPartColumns: P14.1, the equality of two columns.
func TestPartColumns(t *testing.T) {
	b, a, c := tables([]int{0, 1}), ref(0, 0), ref(1, 1)
	for _, x := range []struct{ left, right, den int }{
		{50, 20, 50}, {20, 50, 50}, {7, 7, 7}, {1, 1, 1}, {0, 0, 1}, {0, 1, 1}, {0, 2, 2}, {-5, -9, 1}, {-5, 3, 3}, {math.MinInt, math.MinInt, 1}, {math.MinInt, 2, 2},
		{most, 1, most}, {most - 1, 5, most - 1}, {most + 1, 1, most}, {math.MaxInt, math.MaxInt, most}, {math.MaxInt, math.MinInt, most},
	} {
		stats := []api.Stat{stat(100, unlike(x.left), unlike(77)), stat(100, unlike(66), unlike(x.right))}
		checkParts(t, b, stats, asked{of(api.OpEq, a, c), 1, x.den}, asked{of(api.OpEq, c, a), 1, x.den})
	}
	stats := []api.Stat{stat(100, unlike(9), unlike(12)), stat(100, unlike(11), unlike(10))}
	checkParts(t, b, stats,
		asked{of(api.OpEq, a, ref(0, 1)), 1, 12}, asked{of(api.OpEq, ref(0, 1), a), 1, 12}, asked{of(api.OpEq, a, a), 1, 9}, asked{of(api.OpEq, a, ref(1, 5)), 1, 9}, asked{of(api.OpEq, ref(1, 5), a), 1, 9}, asked{of(api.OpEq, ref(15, 0), a), 1, 9}, asked{of(api.OpEq, ref(15, 0), ref(14, 0)), 1, 1},
		asked{of(api.OpNe, a, c), 1, 3}, asked{of(api.OpLt, a, c), 1, 3}, asked{of(api.OpLe, c, a), 1, 3}, asked{of(api.OpGt, a, c), 1, 3}, asked{of(api.OpGe, a, a), 1, 3},
	)
}

// TestPartNull: P14.1, whether a column is NULL.
func TestPartNull(t *testing.T) {
	is := of(api.OpIs, ref(0, 1))
	for _, x := range []struct{ rows, nulls, num, den int }{
		{100, 7, 7, 100}, {100, 0, 0, 100}, {100, 99, 99, 100}, {100, 100, 100, 100}, {100, 101, 100, 100}, {100, -1, 0, 100}, {100, math.MinInt, 0, 100}, {100, math.MaxInt, 100, 100},
		{1, 1, 1, 1}, {1, 5, 1, 1}, {0, 0, 0, 1}, {0, 5, 0, 1}, {-3, 5, 0, 1}, {-3, -5, 0, 1}, {math.MinInt, math.MaxInt, 0, 1},
		{most, most, most, most}, {most + 1, 3, 3, most}, {math.MaxInt, math.MaxInt, most, most}, {math.MaxInt, most - 1, most - 1, most},
	} {
		h := api.Hist{Distinct: 2, Nulls: x.nulls, Steps: stepped().Steps}
		checkParts(t, tables([]int{0}), []api.Stat{stat(x.rows, unlike(3), h)}, asked{is, x.num, x.den})
	}
	b := tables([]int{0})
	checkParts(t, b, nil, asked{is, 0, 10})
	checkParts(t, b, []api.Stat{stat(55, stepped())}, asked{is, 0, 55}, asked{of(api.OpIs, ref(0, 0)), 4, 55}, asked{of(api.OpIs, ref(1, 0)), 0, 10})
	checkParts(t, b, []api.Stat{{Rows: 100, Hists: []api.Hist{{Nulls: 20}}}}, asked{of(api.OpIs, ref(0, 0)), 20, 100})
}

// TestPartOther: P14.1, everything else is 1 of 3.
func TestPartOther(t *testing.T) {
	b, stats := tables([]int{0, 1}), []api.Stat{stat(100, stepped(), unlike(20)), stat(50, stepped())}
	a, eq := ref(0, 0), of(api.OpEq, ref(0, 0), number(5))
	for _, e := range []api.Expr{
		a, null(), number(5), truth(0), truth(1), word("a"), param(1),
		of(api.OpNot, eq), of(api.OpAnd, eq, eq), of(api.OpOr, eq, eq), of(api.OpNot, of(api.OpIs, a)), of(api.OpAdd, a, number(5)), of(api.OpSub, a, number(5)), of(api.OpMul, a, a), of(api.OpDiv, a, number(5)), of(api.OpNeg, a),
		of(api.OpEq, a, param(1)), of(api.OpEq, param(1), a), of(api.OpLt, a, param(2)), of(api.OpGe, param(2), a), of(api.OpEq, param(1), number(5)), of(api.OpEq, param(1), param(1)),
		of(api.OpEq, number(5), number(5)), of(api.OpLt, number(4), number(5)), of(api.OpEq, null(), null()), of(api.OpEq, null(), number(5)),
		of(api.OpEq, a, of(api.OpAdd, number(2), number(3))), of(api.OpEq, of(api.OpAdd, a, number(0)), number(5)), of(api.OpLt, of(api.OpNeg, a), number(5)), of(api.OpGt, number(5), of(api.OpNeg, a)), of(api.OpEq, of(api.OpNeg, a), ref(1, 0)), of(api.OpEq, eq, truth(1)), of(api.OpEq, eq, a), of(api.OpEq, eq, eq),
		of(api.OpIs, null()), of(api.OpIs, number(5)), of(api.OpIs, param(1)), of(api.OpIs, of(api.OpNeg, a)), of(api.OpIs, of(api.OpIs, a)), of(api.OpIs, eq), deep(api.MaxDepth),
	} {
		checkParts(t, b, stats, asked{e, 1, 3})
	}
}

// TestPartWrong: P14.1, an expression that is not valid is 1 of 3.
func TestPartWrong(t *testing.T) {
	stats := []api.Stat{stat(100, stepped()), stat(50, stepped())}
	for i, e := range wrong() {
		if num, den := card.Part(e, tables([]int{0, 1}), stats); num != 1 || den != 3 {
			t.Error(i, num, den)
		}
	}
}

// TestStatistics: P14.1, those of table i are at the number that is the element i of Tables, also behind the core; where there are none, there are 10 rows.
func TestStatistics(t *testing.T) {
	stats := []api.Stat{stat(20, api.Hist{Distinct: 2, Nulls: 1}), stat(30, api.Hist{Distinct: 3, Nulls: 2}), stat(40, api.Hist{Distinct: 4, Nulls: 3})}
	b := api.Block{Tables: []int{2, 0, 2, 1, 3, -1, math.MaxInt, math.MinInt}, Core: 2, Kinds: []int{api.Left, api.Semi}}
	for i, want := range []struct{ rows, unlike, nulls int }{{40, 4, 3}, {20, 2, 1}, {40, 4, 3}, {30, 3, 2}, {10, 1, 0}, {10, 1, 0}, {10, 1, 0}, {10, 1, 0}, {10, 1, 0}, {10, 1, 0}} {
		checkParts(t, b, stats, asked{of(api.OpEq, ref(i, 0), number(5)), 1, want.unlike}, asked{of(api.OpIs, ref(i, 0)), want.nulls, want.rows}, asked{of(api.OpEq, ref(i, 0), ref(i, 1)), 1, want.unlike})
	}
	checkParts(t, b, stats, asked{of(api.OpEq, ref(0, 0), ref(3, 0)), 1, 4}, asked{of(api.OpEq, ref(1, 0), ref(3, 0)), 1, 3}, asked{of(api.OpEq, ref(1, 0), ref(4, 0)), 1, 2})
	// Core says nothing of which tables a block has.
	for _, core := range []int{0, -1, 1, 9, math.MaxInt, math.MinInt} {
		b.Core = core
		checkParts(t, b, stats, asked{of(api.OpIs, ref(3, 0)), 2, 30}, asked{of(api.OpIs, ref(9, 0)), 0, 10})
	}
	checkParts(t, api.Block{}, stats, asked{of(api.OpIs, ref(0, 0)), 0, 10}, asked{of(api.OpEq, ref(0, 0), number(5)), 1, 1})
	// The room behind a list is not of it.
	b = api.Block{Tables: []int{1, 0, 0}[:1], Core: 1}
	checkParts(t, b, stats[:1], asked{of(api.OpIs, ref(0, 0)), 0, 10})
	checkParts(t, b, stats, asked{of(api.OpIs, ref(0, 0)), 2, 30}, asked{of(api.OpIs, ref(1, 0)), 0, 10})
}
