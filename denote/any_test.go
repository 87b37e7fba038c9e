package denote_test

import (
	"math"
	"math/rand"
	"strings"
	"testing"

	"weathercock/api"
	"weathercock/denote"
)

// endless contains itself.
func endless() api.Expr {
	l := make([]api.Expr, 2)
	e := api.Expr{Op: api.OpAnd, L: l}
	l[0], l[1] = e, e
	return e
}

// anyExpr is an expression that may be wrong in any way.
func anyExpr(r *rand.Rand, depth int) api.Expr {
	switch r.Intn(12) {
	case 0:
		return endless()
	case 1:
		return api.Expr{}
	case 2:
		return api.Expr{Op: r.Intn(24) - 2, Rel: anyNumber(r), Col: anyNumber(r), N: anyNumber(r), S: pick(r, "", "x")}
	case 3, 4:
		return api.Expr{Op: api.OpConst, V: api.Value{Kind: r.Intn(6) - 1, N: r.Intn(3)}}
	case 5, 6, 7:
		return api.Expr{Op: api.OpRef, Rel: r.Intn(8) - 1, Col: r.Intn(4)}
	}
	e := api.Expr{Op: api.OpAdd + r.Intn(15)}
	for range 2 {
		if depth > 0 {
			e.L = append(e.L, anyExpr(r, depth-1))
		}
	}
	return e
}

func anyNumber(r *rand.Rand) int {
	return pick(r, 0, 0, 0, 1, 1, 2, 3, 4, 5, 6, 7, 8, 20, -1, -2, math.MaxInt, math.MinInt, math.MinInt+1, 1<<32, 1<<62)
}

func anyExprs(r *rand.Rand) []api.Expr {
	var l []api.Expr
	for range r.Intn(4) {
		l = append(l, anyExpr(r, 3))
	}
	return l
}

func anyNumbers(r *rand.Rand, most int) []int {
	var l []int
	for range r.Intn(most + 1) {
		l = append(l, anyNumber(r))
	}
	return l
}

func anyBlock(r *rand.Rand) api.Block {
	b := api.Block{
		Tables: anyNumbers(r, 7), Core: anyNumber(r), Kinds: anyNumbers(r, 3), On: anyExprs(r), Conds: anyExprs(r), After: anyExprs(r), Unsafe: anyExprs(r),
		Grouped: r.Intn(2) == 0, Keys: anyExprs(r), Distinct: r.Intn(2) == 0,
	}
	for range r.Intn(4) {
		b.Items = append(b.Items, api.Item{Agg: anyNumber(r), E: anyExpr(r, 3)})
	}
	return b
}

// nearBlock fits l as far as its tables go, and is wrong elsewhere only.
func nearBlock(r *rand.Rand, l []api.Table) api.Block {
	b := anyBlock(r)
	b.Core, b.Tables, b.Kinds, b.On = 1+r.Intn(3), nil, nil, nil
	for range b.Core {
		b.Tables = append(b.Tables, r.Intn(len(l)))
	}
	for range r.Intn(3) {
		b.Tables, b.Kinds, b.On = append(b.Tables, r.Intn(len(l))), append(b.Kinds, anyNumber(r)), append(b.On, anyExpr(r, 3))
	}
	return b
}

// anyTables have rows that are too long or too short, values that are not valid, and more of everything than may be.
func anyTables(r *rand.Rand) []api.Table {
	var l []api.Table
	for range r.Intn(9) {
		t := api.Table{Name: pick(r, "", "t", "u"), Cols: make([]api.Column, r.Intn(3))}
		for range r.Intn(4) {
			row := make([]api.Value, r.Intn(4))
			for i := range row {
				row[i] = pick(r, api.Value{}, of(1), of(0), of(true), of("x"), api.Value{Kind: 7}, api.Value{N: 1}, of(strings.Repeat("y", 300)))
			}
			t.Rows = append(t.Rows, row)
		}
		if r.Intn(20) == 0 {
			t.Rows, t.Cols = make([][]api.Value, 3000), make([]api.Column, 100)
		}
		l = append(l, t)
	}
	return l
}

// TestAny: P1, every call ends and none panics, whatever it is given.
func TestAny(t *testing.T) {
	r := rand.New(rand.NewSource(6))
	for range 20000 {
		l := anyTables(r)
		if len(l) == 0 || r.Intn(3) == 0 {
			l = tables()
		}
		b := anyBlock(r)
		if r.Intn(3) > 0 {
			b = nearBlock(r, l)
		}
		params := []api.Value{of(1), {Kind: 8}}[:r.Intn(3)]
		var core, inner [][]int
		for range r.Intn(4) {
			core = append(core, anyNumbers(r, 4))
			inner = append(inner, make([]int, max(0, min(b.Core, 5))))
		}
		q := api.Bound{Blocks: []api.Block{b, b}, Cols: anyNumbers(r, 3)}
		for range r.Intn(4) {
			q.Order = append(q.Order, api.Key{Col: anyNumber(r), Desc: r.Intn(2) == 0})
		}
		denote.Core(l, params, b)
		denote.Outer(l, params, b, core)
		denote.Outer(l, params, b, inner)
		denote.Block(l, params, b)
		rows, _ := denote.Query(l, params, q)
		denote.Sort(rows, q.Order)
	}
}

// TestWrong: P1 and P6, blocks that fit no tables.
func TestWrong(t *testing.T) {
	l := tables()
	yes := api.Expr{Op: api.OpConst, V: of(true)}
	huge := numbers("t")
	huge.Rows = make([][]api.Value, 1<<20)
	for i, b := range []api.Block{
		{}, {Tables: []int{0}}, {Core: 1}, {Tables: []int{0}, Core: -1}, {Tables: []int{0}, Core: math.MinInt}, {Tables: []int{0}, Core: 2}, {Tables: []int{0}, Core: math.MaxInt},
		{Tables: []int{4}, Core: 1}, {Tables: []int{-1}, Core: 1}, {Tables: []int{math.MaxInt}, Core: 1}, {Tables: []int{math.MinInt}, Core: 1}, {Tables: []int{0, 9}, Core: 2},
		{Tables: []int{0, 4}, Core: 1, Kinds: []int{api.Left}, On: []api.Expr{yes}},
		{Tables: []int{0, 1}, Core: 1}, {Tables: []int{0, 1}, Core: 1, Kinds: []int{api.Left}}, {Tables: []int{0, 1}, Core: 1, On: []api.Expr{yes}},
		{Tables: []int{0}, Core: 1, Kinds: []int{api.Left}, On: []api.Expr{yes}}, {Tables: []int{0, 1}, Core: 1, Kinds: []int{api.Left, api.Left}, On: []api.Expr{yes, yes}},
		{Tables: make([]int, 40), Core: 40}, {Tables: make([]int, 5), Core: 5}, {Tables: make([]int, 4), Core: 1, Kinds: make([]int, 3), On: make([]api.Expr, 3)},
	} {
		for _, grouped := range []bool{false, true} {
			b.Grouped, b.Items = grouped, []api.Item{{Agg: api.AggCount}}
			rows, failed := denote.Block(l, nil, b)
			all, anyFailed := denote.Query(l, nil, api.Bound{Blocks: []api.Block{b, b}})
			if len(denote.Core(l, nil, b)) > 0 || len(denote.Outer(l, nil, b, [][]int{{0}})) > 0 || len(rows) > 0 || failed || len(all) > 0 || anyFailed {
				t.Error(i, grouped, rows, failed, all, anyFailed)
			}
		}
	}
	for core := 1; core <= api.MaxCore; core++ {
		b := api.Block{Tables: make([]int, core), Core: core}
		denote.Core([]api.Table{huge}, nil, b)
		denote.Block([]api.Table{huge}, nil, b)
		denote.Outer([]api.Table{huge}, nil, b, [][]int{make([]int, core)})
	}
	denote.Core(nil, nil, api.Block{Tables: []int{0}, Core: 1})
	denote.Query(nil, nil, api.Bound{})
	denote.Sort(nil, []api.Key{{Col: math.MinInt}})
}
