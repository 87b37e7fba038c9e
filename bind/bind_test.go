package bind_test

import (
	"fmt"
	"math"
	"slices"
	"strconv"
	"strings"
	"testing"

	"weathercock/api"
	"weathercock/bind"
	"weathercock/parse"
)

// maxOps is the number of operations that an expression consists of at most.
const maxOps = 200

func integer(n int) api.Value { return api.Value{Kind: api.Int, N: n} }

func text(s string) api.Value { return api.Value{Kind: api.Text, S: s} }

func constant(v api.Value) api.Expr { return api.Expr{Op: api.OpConst, V: v} }

func num(n int) api.Expr { return constant(integer(n)) }

func ref(rel, col int) api.Expr { return api.Expr{Op: api.OpRef, Rel: rel, Col: col} }

func param(n int) api.Expr { return api.Expr{Op: api.OpParam, N: n} }

func apply(op int, l ...api.Expr) api.Expr { return api.Expr{Op: op, L: l} }

// named is an OpName as chapter 9 makes it, of "a" or of "t.a".
func named(s string) api.Expr {
	table, column, ok := strings.Cut(s, ".")
	if !ok {
		table, column = "", s
	}
	return api.Expr{Op: api.OpName, S: table, V: text(column)}
}

var (
	null = constant(api.Value{})
	yes  = constant(api.Value{Kind: api.Bool, N: 1})
	no   = constant(api.Value{Kind: api.Bool})
	over = api.Item{Agg: api.AggCount}
)

// tables are those that the queries here are about.
func tables() []api.Table {
	return []api.Table{
		{Name: "t", Cols: []api.Column{{Name: "a", Kind: api.Int}, {Name: "b", Kind: api.Text}, {Name: "d", Kind: api.Bool}}, Rows: [][]api.Value{{integer(1), text("x"), {}}}},
		{Name: "u", Cols: []api.Column{{Name: "a", Kind: api.Int}, {Name: "c", Kind: api.Bool}}},
		{Name: "v", Cols: []api.Column{{Name: "e", Kind: api.Text}, {Name: "f", Kind: api.Int}}},
	}
}

// params are of the kinds Int, Text and Null; there is no fourth.
func params() []api.Value { return []api.Value{integer(3), text("x"), {}} }

func read(t *testing.T, s string) api.Query {
	t.Helper()
	q, e, at := parse.Parse(s)
	if e != api.OK {
		t.Fatalf("%q: error %d at %d", s, e, at)
	}
	return q
}

// shown is all of x; an empty list may be nil.
func shown(x any) string { return fmt.Sprintf("%+v", x) }

// like checks that Bind returns exactly this.
func like(t *testing.T, what any, q api.Query, want api.Bound) {
	t.Helper()
	b, e := bind.Bind(tables(), params(), q)
	if e != api.OK || shown(b) != shown(want) {
		t.Errorf("%v:\n%+v, error %d, want\n%+v", what, b, e, want)
	}
}

// is checks that s is bound to exactly this.
func is(t *testing.T, s string, want api.Bound) {
	t.Helper()
	like(t, s, read(t, s), want)
}

// isBlock checks that s, one select, is bound to exactly this, with columns of those kinds.
func isBlock(t *testing.T, s string, want api.Block, cols ...int) {
	t.Helper()
	is(t, s, api.Bound{Blocks: []api.Block{want}, Cols: cols})
}

// ends checks that Bind ends with that error, and that there is nothing beside one.
func ends(t *testing.T, what any, l []api.Table, params []api.Value, q api.Query, want api.Errno) {
	t.Helper()
	b, e := bind.Bind(l, params, q)
	if e != want || e != api.OK && len(b.Blocks)+len(b.Order)+len(b.Cols) > 0 || e == api.OK && len(b.Blocks) != len(q.Selects) {
		t.Errorf("%v: %+v, error %d, want %d", what, b, e, want)
	}
}

// fails checks that s ends with that error, which may be OK.
func fails(t *testing.T, s string, want api.Errno) {
	t.Helper()
	ends(t, s, tables(), params(), read(t, s), want)
}

// TestExamples: P10.1, the chapter's examples.
func TestExamples(t *testing.T) {
	l := []api.Table{{Name: "t", Cols: []api.Column{{Name: "a", Kind: api.Int}, {Name: "b", Kind: api.Text}}}}
	for s, want := range map[string]api.Errno{
		"SELECT a FROM t WHERE b = 1": api.ErrType, "SELECT c FROM t": api.ErrName, "SELECT a FROM t, t": api.ErrName,
		"SELECT a FROM t GROUP BY b": api.ErrGroup, "SELECT a FROM t ORDER BY 2": api.ErrOrder,
	} {
		ends(t, s, l, nil, read(t, s), want)
	}
}

// TestWhole: P10.1, a query with everything in it.
func TestWhole(t *testing.T) {
	first := api.Block{
		Tables: []int{0, 1, 2, 2, 1}, Core: 3, Kinds: []int{api.Left, api.Semi},
		On: []api.Expr{
			apply(api.OpAnd, apply(api.OpEq, ref(3, 0), ref(0, 1)), ref(1, 1)),
			apply(api.OpEq, ref(4, 0), ref(3, 1)),
		},
		Conds: []api.Expr{
			apply(api.OpEq, ref(0, 0), ref(1, 0)), ref(1, 1), apply(api.OpNe, ref(2, 0), param(2)),
			apply(api.OpOr, ref(0, 2), apply(api.OpIs, ref(2, 1))),
		},
		After:   []api.Expr{yes, apply(api.OpLt, ref(3, 1), ref(0, 0)), apply(api.OpEq, param(1), num(3))},
		Unsafe:  []api.Expr{apply(api.OpEq, apply(api.OpAdd, ref(0, 0), num(1)), num(2))},
		Grouped: true,
		Keys:    []api.Expr{ref(1, 0), apply(api.OpIs, ref(3, 0))},
		Items: []api.Item{
			{E: apply(api.OpIs, ref(3, 0))}, over, {Agg: api.AggOf, E: ref(2, 0)}, {Agg: api.AggSum, E: apply(api.OpNeg, ref(3, 1))},
			{Agg: api.AggMin, E: ref(0, 1)}, {Agg: api.AggMax, E: ref(1, 1)}, {E: ref(1, 0)},
		},
		Distinct: true,
	}
	second := api.Block{
		Tables: []int{2}, Core: 1,
		Items: []api.Item{{E: null}, {E: ref(0, 1)}, {E: null}, {E: num(1)}, {E: ref(0, 0)}, {E: yes}, {E: apply(api.OpMul, ref(0, 1), param(3))}},
	}
	is(t, "SELECT DISTINCT x.e IS NULL, COUNT(*), COUNT(v.e), SUM(-x.f), MIN(b), MAX(u.c), u.a FROM t JOIN u ON t.a = u.a AND u.c, v "+
		"LEFT JOIN v x ON x.e = t.b AND c SEMI JOIN u y ON y.a = x.f "+
		"WHERE v.e <> $2 AND TRUE AND (t.a + 1 = 2 AND (x.f < t.a AND (d OR v.f IS NULL))) AND $1 = 3 GROUP BY u.a, x.e IS NULL "+
		"UNION ALL SELECT NULL, f, NULL, 1, e, TRUE, v.f * $3 FROM v ORDER BY 7 DESC, 1",
		api.Bound{
			Blocks: []api.Block{first, second}, Order: []api.Key{{Col: 6, Desc: true}, {}},
			Cols: []int{api.Bool, api.Int, api.Int, api.Int, api.Text, api.Bool, api.Int},
		})
}

// plain is SELECT a FROM t.
func plain() api.Select {
	return api.Select{Items: []api.Item{{E: named("a")}}, From: []api.From{{Table: "t", Alias: "t"}}}
}

// query is selects without an ORDER BY.
func query(l ...api.Select) api.Query { return api.Query{Selects: l} }

// TestArguments: P10.1, tables, parameters and queries that may not be, whatever else is wrong.
func TestArguments(t *testing.T) {
	nine := make([]api.Table, 9)
	for i := range nine {
		nine[i] = api.Table{Name: "t" + strconv.Itoa(i), Cols: []api.Column{{Name: "a", Kind: api.Int}}}
	}
	nine[0].Name = "t"
	wrongTables := [][]api.Table{
		nine, {nine[0], nine[0]}, {{Name: "t"}}, {{Name: "T", Cols: nine[0].Cols}}, {nine[0], {Name: "", Cols: nine[0].Cols}}, {nine[0], {Name: "select", Cols: nine[0].Cols}},
		{{Name: "t", Cols: []api.Column{{Name: "a"}}}}, {{Name: "t", Cols: []api.Column{{Name: "a", Kind: api.Int}, {Name: "a", Kind: api.Text}}}},
		{{Name: "t", Cols: nine[0].Cols, Rows: [][]api.Value{{}}}}, {{Name: "t", Cols: nine[0].Cols, Rows: [][]api.Value{{text("x")}}}}, {{Name: "t", Cols: nine[0].Cols, Rows: make([][]api.Value, 21)}},
	}
	long := text(strings.Repeat("a", api.MaxBytes+1))
	wrongParams := [][]api.Value{make([]api.Value, 5), {{Kind: 4}}, {{Kind: -1}}, {integer(1), {N: 1}}, {{S: "x"}}, {{Kind: api.Bool, N: 2}}, {integer(1), {}, {}, long}, {{Kind: api.Text, N: 1}}, {{Kind: api.Int, S: "1"}}}
	for _, s := range []string{"SELECT a FROM t", "SELECT w FROM z", "SELECT b + 1 FROM t, t ORDER BY 9"} {
		for i, l := range wrongTables {
			ends(t, "tables "+strconv.Itoa(i), l, params(), read(t, s), api.ErrArg)
		}
		for i, l := range wrongParams {
			ends(t, "params "+strconv.Itoa(i), tables(), l, read(t, s), api.ErrArg)
		}
	}
	for _, l := range [][]api.Value{nil, {}, {{}}, make([]api.Value, 4), {integer(math.MinInt), {Kind: api.Bool, N: 1}, text(""), text(strings.Repeat("a", api.MaxBytes))}} {
		ends(t, l, nine[:8], l, query(plain()), api.OK)
	}
	for _, q := range []api.Query{{}, {Selects: []api.Select{}}, {Order: make([]api.Key, 9)}, {Order: []api.Key{{Col: 1}}}} {
		ends(t, q, tables(), params(), q, api.ErrArg)
		ends(t, q, nil, nil, q, api.ErrArg)
	}
	ends(t, "no tables", nil, nil, query(plain()), api.ErrName)
	ends(t, "an empty select", tables(), params(), query(api.Select{}), api.ErrArg)
}

// TestNames: P10.1, names alone and with what a table is called.
func TestNames(t *testing.T) {
	for s, want := range map[string]api.Expr{
		"b FROM t": ref(0, 1), "t.b FROM t": ref(0, 1), "x.b FROM t x": ref(0, 1), "b FROM t x": ref(0, 1), "T.B FROM T": ref(0, 1), "x.d FROM t X": ref(0, 2),
		"u.a FROM t, u": ref(1, 0), "t.a FROM t, u": ref(0, 0), "c FROM t, u": ref(1, 1), "b FROM u, t": ref(1, 1), "f FROM t, u, v": ref(2, 1),
		"y.a FROM t x, t y": ref(1, 0), "x.a FROM t x, t y": ref(0, 0), "t.a FROM u t": ref(0, 0), "t.c FROM t u, u t": ref(1, 1), "u.b FROM t u, u t": ref(0, 1),
		"d.d FROM t d": ref(0, 2), "v.e FROM t LEFT JOIN v ON TRUE": ref(1, 0), "e FROM t LEFT JOIN v ON TRUE": ref(1, 0),
		"t.a FROM t SEMI JOIN u ON TRUE": ref(0, 0), "a FROM t SEMI JOIN u ON TRUE": ref(0, 0), "e FROM t SEMI JOIN v x ON TRUE LEFT JOIN v ON TRUE": ref(2, 0),
		"v.f FROM t a, t b, t c, t d LEFT JOIN u ON TRUE LEFT JOIN v ON TRUE": ref(5, 1),
	} {
		b, e := bind.Bind(tables(), params(), read(t, "SELECT "+s))
		if e != api.OK || len(b.Blocks) != 1 || shown(b.Blocks[0].Items) != shown([]api.Item{{E: want}}) {
			t.Errorf("%q: %+v, error %d, want %+v", s, b, e, want)
		}
	}
	for _, s := range []string{
		"z FROM t", "t.z FROM t", "c FROM t", "u.a FROM t", "t.c FROM t, u", "u.b FROM t, u", "x.z FROM t x", "z.x FROM t x", "a.t FROM t", "t FROM t",
		"t.a FROM t x", "a FROM t, u", "b FROM t x, t y", "t.b FROM t x, t y", "a FROM t LEFT JOIN u ON TRUE", "a FROM t x LEFT JOIN t y ON TRUE",
		"u.a FROM t SEMI JOIN u ON TRUE", "c FROM t SEMI JOIN u ON TRUE", "y.a FROM t SEMI JOIN t y ON TRUE", "y.a FROM t SEMI JOIN t y ON TRUE LEFT JOIN t z ON TRUE",
		"1 + z FROM t", "NOT z FROM t", "z IS NULL FROM t", "SUM(z) FROM t", "COUNT(z) FROM t", "MIN(z) FROM t", "MAX(z) FROM t",
	} {
		fails(t, "SELECT "+s, api.ErrName)
	}
}

// TestPlaces: P10.1, names are resolved at every place and within every operation.
func TestPlaces(t *testing.T) {
	isBlock(t, "SELECT t.a = u.a OR NOT (b IS NULL), -(t.a - u.a) / 2 FROM t, u", api.Block{
		Tables: []int{0, 1}, Core: 2,
		Items: []api.Item{
			{E: apply(api.OpOr, apply(api.OpEq, ref(0, 0), ref(1, 0)), apply(api.OpNot, apply(api.OpIs, ref(0, 1))))},
			{E: apply(api.OpDiv, apply(api.OpNeg, apply(api.OpSub, ref(0, 0), ref(1, 0))), num(2))},
		},
	}, api.Bool, api.Int)
	x := ref(0, 2)
	for op := api.OpAdd; op <= api.OpIs; op++ {
		e := apply(op, named("a"), named("t.a"))
		want := apply(op, ref(0, 0), ref(0, 0))
		switch op {
		case api.OpNeg:
			e, want = apply(op, named("a")), apply(op, ref(0, 0))
		case api.OpAnd, api.OpOr:
			e, want = apply(op, named("d"), named("t.d")), apply(op, x, x)
		case api.OpNot, api.OpIs:
			e, want = apply(op, named("d")), apply(op, x)
		}
		s := plain()
		s.Items = []api.Item{{E: e}}
		b, err := bind.Bind(tables(), nil, query(s))
		if err != api.OK || shown(b.Blocks[0].Items[0].E) != shown(want) {
			t.Errorf("%d: %+v, error %d", op, b, err)
		}
	}
}

// within is expressions that hold e somewhere.
func within(e api.Expr) []api.Expr {
	return []api.Expr{e, apply(api.OpIs, e), apply(api.OpEq, null, e), apply(api.OpOr, apply(api.OpNot, apply(api.OpIs, e)), yes), apply(api.OpOr, yes, apply(api.OpIs, apply(api.OpEq, e, null)))}
}

// places returns SELECT 1 FROM t x, u y LEFT JOIN v z SEMI JOIN v w with e at each place where an expression may stand.
func places(e api.Expr) map[string]api.Query {
	out := map[string]api.Query{}
	put := func(s string, f func(*api.Select)) {
		x := api.Select{
			Items: []api.Item{{E: num(1)}},
			From: []api.From{
				{Table: "t", Alias: "x"}, {Table: "u", Alias: "y"},
				{Table: "v", Alias: "z", Kind: api.Left, On: []api.Expr{yes}}, {Table: "v", Alias: "w", Kind: api.Semi, On: []api.Expr{yes}},
			},
		}
		f(&x)
		out[s] = query(x)
	}
	for i := range 4 {
		put("on "+strconv.Itoa(i), func(x *api.Select) { x.From[i].On = []api.Expr{e} })
	}
	put("where", func(x *api.Select) { x.Where = []api.Expr{e} })
	put("group", func(x *api.Select) {
		x.Group = []api.Expr{e}
		x.Items = []api.Item{over}
	})
	put("item", func(x *api.Select) { x.Items = []api.Item{{E: e}} })
	for agg := api.AggOf; agg <= api.AggMax; agg++ {
		put("aggregate "+strconv.Itoa(agg), func(x *api.Select) { x.Items = []api.Item{{Agg: agg, E: e}} })
	}
	return out
}

// atPlaces checks that e ends with that error wherever it may stand; a SUM of it may not be of its kind.
func atPlaces(t *testing.T, what any, e api.Expr, want api.Errno) {
	t.Helper()
	for s, q := range places(e) {
		if want != api.OK || s != "aggregate "+strconv.Itoa(api.AggSum) {
			ends(t, fmt.Sprint(what, " at ", s), tables(), params(), q, want)
		}
	}
}

// everywhere checks that e ends with that error wherever it may stand, and within other expressions.
func everywhere(t *testing.T, what any, e api.Expr, want api.Errno) {
	t.Helper()
	for _, e := range within(e) {
		atPlaces(t, what, e, want)
	}
}

// TestVisible: P10.1, which tables are visible where.
func TestVisible(t *testing.T) {
	from := []api.From{
		{Table: "t", Alias: "p"}, {Table: "u", Alias: "q"}, {Table: "v", Alias: "r"},
		{Table: "t", Alias: "s", Kind: api.Semi}, {Table: "u", Alias: "l", Kind: api.Left},
	}
	turned := slices.Clone(from)
	turned[3], turned[4] = turned[4], turned[3]
	for i, x := range []struct {
		from []api.From
		seen map[string]string // what each place sees
	}{
		{from, map[string]string{"0": "p", "1": "pq", "2": "pqr", "3": "pqrs", "4": "pqrl", "where": "pqrl", "group": "pqrl", "item": "pqrl", "agg": "pqrl"}},
		{turned, map[string]string{"0": "p", "1": "pq", "2": "pqr", "3": "pqrl", "4": "pqrls", "where": "pqrl", "group": "pqrl", "item": "pqrl", "agg": "pqrl"}},
		{from[:2], map[string]string{"0": "p", "1": "pq", "where": "pq", "group": "pq", "item": "pq", "agg": "pq"}},
		{[]api.From{from[0], from[4], {Table: "v", Alias: "m", Kind: api.Left}}, map[string]string{"0": "p", "1": "pl", "2": "plm", "where": "plm", "group": "plm", "item": "plm", "agg": "plm"}},
		{[]api.From{from[0], from[3], {Table: "v", Alias: "n", Kind: api.Semi}}, map[string]string{"0": "p", "1": "ps", "2": "pn", "where": "p", "group": "p", "item": "p", "agg": "p"}},
	} {
		for place, seen := range x.seen {
			for rel, f := range x.from {
				column := map[string]string{"t": "b", "u": "c", "v": "e"}[f.Table]
				e := apply(api.OpIs, named(f.Alias+"."+column))
				want := api.ErrName
				if strings.Contains(seen, f.Alias) {
					want = api.OK
				}
				ends(t, fmt.Sprint(i, " ", place, " sees ", f.Alias), tables(), nil, seeing(x.from, place, e), want)
				// The name alone is that of the only table that is visible.
				many := 0
				for _, g := range x.from {
					if g.Table == f.Table && strings.Contains(seen, g.Alias) {
						many++
					}
				}
				if want = api.ErrName; many == 1 {
					want = api.OK
				}
				ends(t, fmt.Sprint(i, " ", place, " sees ", column, " of ", rel), tables(), nil, seeing(x.from, place, apply(api.OpIs, named(column))), want)
			}
		}
	}
}

// seeing is a query of those tables with e at that place.
func seeing(from []api.From, place string, e api.Expr) api.Query {
	s := api.Select{From: slices.Clone(from), Items: []api.Item{{E: null}}}
	for i := range s.From {
		if s.From[i].Kind != api.Inner {
			s.From[i].On = []api.Expr{yes}
		}
	}
	switch place {
	case "where":
		s.Where = []api.Expr{e}
	case "group":
		s.Group = []api.Expr{e}
		s.Items[0] = over
	case "item":
		s.Items[0].E = e
	case "agg":
		s.Items[0] = api.Item{Agg: api.AggMax, E: e}
	default:
		i, _ := strconv.Atoi(place)
		s.From[i].On = []api.Expr{e}
	}
	return query(s)
}

// TestNamesByHand: P10.1, names that chapter 9 does not make.
func TestNamesByHand(t *testing.T) {
	s := plain()
	b := s
	for i, e := range []api.Expr{
		named("a"), named("t.a"),
		{Op: api.OpName, V: text("a"), N: 7, Rel: -1, Col: 99}, {Op: api.OpName, S: "t", V: text("a"), L: []api.Expr{num(1), named("nobody"), {}}}, {Op: api.OpName, V: text("a"), L: []api.Expr{{Op: -1}}},
	} {
		s.Items = []api.Item{{E: e}}
		like(t, i, query(s), api.Bound{Blocks: []api.Block{{Tables: []int{0}, Core: 1, Items: []api.Item{{E: ref(0, 0)}}}}, Cols: []int{api.Int}})
	}
	for _, x := range []string{"", "t.", "A", "t.A", "T.a", " a", "a ", "t.a.a", "t. a", ".t.a"} {
		e := named(x)
		s.Items = []api.Item{{E: e}}
		ends(t, x, tables(), nil, query(s), api.ErrName)
	}
	long := strings.Repeat("a", 1000)
	b.From = []api.From{{Table: "t", Alias: long}, {Table: "u", Alias: "A b.c"}, {Table: "v", Alias: ""}}
	b.Items = []api.Item{{E: named(long + ".a")}, {E: api.Expr{Op: api.OpName, S: "A b.c", V: text("a")}}, {E: named("e")}, {E: named("d")}}
	like(t, "aliases", query(b), api.Bound{
		Blocks: []api.Block{{Tables: []int{0, 1, 2}, Core: 3, Items: []api.Item{{E: ref(0, 0)}, {E: ref(1, 0)}, {E: ref(2, 0)}, {E: ref(0, 2)}}}},
		Cols:   []int{api.Int, api.Int, api.Text, api.Bool},
	})
	for _, x := range []string{"v.e", "t.a", "a", "A.a"} {
		b.Items = []api.Item{{E: named(x)}}
		ends(t, x, tables(), nil, query(b), api.ErrName)
	}
	b.From = b.From[2:]
	b.Items = []api.Item{{E: named("f")}}
	like(t, "called nothing", query(b), api.Bound{Blocks: []api.Block{{Tables: []int{2}, Core: 1, Items: []api.Item{{E: ref(0, 1)}}}}, Cols: []int{api.Int}})
}

// TestRefs: P10.1, an OpRef of the query stays one; it must be one of a column that is there.
func TestRefs(t *testing.T) {
	s := plain()
	s.From = append(s.From, api.From{Table: "u", Alias: "u"})
	s.Items = []api.Item{{E: ref(0, 2)}, {E: apply(api.OpNeg, ref(1, 0))}}
	s.Where = []api.Expr{apply(api.OpAnd, ref(1, 1), apply(api.OpEq, named("b"), ref(0, 1)))}
	like(t, "refs", query(s), api.Bound{
		Blocks: []api.Block{{Tables: []int{0, 1}, Core: 2, Conds: []api.Expr{ref(1, 1), apply(api.OpEq, ref(0, 1), ref(0, 1))}, Items: s.Items}},
		Cols:   []int{api.Bool, api.Int},
	})
	for _, e := range []api.Expr{
		ref(4, 0), ref(5, 0), ref(15, 0), ref(16, 0), ref(-1, 0), ref(math.MaxInt, 0), ref(math.MinInt, 0), ref(0, 3), ref(1, 2), ref(0, 5), ref(0, 6), ref(0, -1), ref(0, math.MaxInt), ref(0, math.MinInt),
		param(4), param(5), param(0), param(-1), param(math.MaxInt), param(math.MinInt),
	} {
		everywhere(t, e, e, api.ErrArg)
	}
}

// wrongExprs are expressions that are not valid, each in one way.
func wrongExprs() []api.Expr {
	l := []api.Expr{
		{}, {Op: -1}, {Op: 20}, {Op: math.MaxInt}, {Op: math.MinInt}, {Op: api.OpConst, V: api.Value{Kind: 4}}, {Op: api.OpConst, V: api.Value{N: 1}}, constant(text(strings.Repeat("a", api.MaxBytes+1))),
		{Op: api.OpConst, N: 1}, {Op: api.OpConst, Rel: 1}, {Op: api.OpConst, Col: 1}, {Op: api.OpConst, S: "x"}, {Op: api.OpRef, V: text("a")}, {Op: api.OpRef, S: "t"}, {Op: api.OpRef, N: 1}, {Op: api.OpParam, N: 1, S: "x"},
		{Op: api.OpIs, L: []api.Expr{null}, V: integer(0)}, {Op: api.OpNot, L: []api.Expr{null}, N: 1}, {Op: api.OpAnd, L: []api.Expr{null, null}, S: "x"}, {Op: api.OpAdd, L: []api.Expr{null, null}, Col: 1},
		apply(api.OpConst, null), apply(api.OpRef, null), {Op: api.OpParam, N: 1, L: []api.Expr{null}},
	}
	for op := api.OpAdd; op <= api.OpIs; op++ {
		l = append(l, apply(op), apply(op, null, null, null))
		if op == api.OpNeg || op == api.OpNot || op == api.OpIs {
			l = append(l, apply(op, null, null))
		} else {
			l = append(l, apply(op, null))
		}
	}
	return l
}

// TestWrong: P10.1, expressions that are not valid, wherever they stand; a name in one that nobody has is found first.
func TestWrong(t *testing.T) {
	for i, e := range wrongExprs() {
		everywhere(t, "wrong "+strconv.Itoa(i), e, api.ErrArg)
		everywhere(t, "wrong and a name "+strconv.Itoa(i), apply(api.OpEq, e, named("z.z")), api.ErrName)
		if e.Op != api.OpName {
			e.L = append(slices.Clone(e.L), named("z.z"))
			everywhere(t, "wrong with a name "+strconv.Itoa(i), e, api.ErrName)
		}
	}
}

// chain is e below so many operations of one operand.
func chain(op, many int, e api.Expr) api.Expr {
	for range many {
		e = apply(op, e)
	}
	return e
}

// tree is a shallow expression of exactly n operations, the leaves of which are e.
func tree(n int, e api.Expr) api.Expr {
	switch n {
	case 1:
		return e
	case 2:
		return apply(api.OpNot, e)
	}
	half := (n - 1) / 2
	return apply(api.OpOr, tree(half, e), tree(n-1-half, e))
}

// TestDepth: P10.1, an expression of MaxDepth is fine, a deeper one is too long, whatever else is wrong in it.
func TestDepth(t *testing.T) {
	for what, e := range map[string]api.Expr{"constant": yes, "name": named("x.d"), "ref": ref(0, 2)} {
		for n := range 40 {
			want := api.OK
			if n+1 > api.MaxDepth {
				want = api.ErrLong
			}
			atPlaces(t, fmt.Sprint(what, " ", n+1, " deep"), chain(api.OpNot, n, e), want)
		}
	}
	for _, e := range []api.Expr{named("z.z"), {}, apply(api.OpNot, num(1)), apply(api.OpNot), {Op: api.OpName}} {
		everywhere(t, e, chain(api.OpNot, api.MaxDepth, e), api.ErrLong)
		everywhere(t, e, apply(api.OpEq, chain(0, api.MaxDepth, num(1)), e), api.ErrLong)
		everywhere(t, e, apply(api.OpEq, e, chain(-1, 5000, num(1))), api.ErrLong)
	}
}

// TestSize: P10.1, an expression of 200 operations is fine, one of more is too long, whatever else is wrong in it.
func TestSize(t *testing.T) {
	for what, e := range map[string]api.Expr{"constant": yes, "name": named("x.d"), "ref": ref(0, 2)} {
		for _, n := range []int{1, 2, 3, 100, maxOps - 1, maxOps, maxOps + 1, maxOps + 2, 1000} {
			want := api.OK
			if n > maxOps {
				want = api.ErrLong
			}
			atPlaces(t, fmt.Sprint(what, " of ", n), tree(n, e), want)
		}
	}
	for _, e := range []api.Expr{named("z.z"), {}, apply(api.OpNot, num(1))} {
		everywhere(t, e, tree(maxOps+1, e), api.ErrLong)
		everywhere(t, e, apply(0, slices.Repeat([]api.Expr{e}, maxOps)...), api.ErrLong)
	}
}

// TestBelowNames: P10.1, what stands below a name is counted, and then dropped.
func TestBelowNames(t *testing.T) {
	below := func(l ...api.Expr) api.Expr {
		e := named("x.d")
		e.L = l
		return e
	}
	fine := []api.Expr{
		below(chain(api.OpName, api.MaxDepth-2, named("z.z"))), below(slices.Repeat([]api.Expr{named("z.z")}, maxOps-1)...), below(tree(maxOps-1, api.Expr{})),
		chain(api.OpNot, api.MaxDepth-2, below(num(1))), apply(api.OpNot, below(slices.Repeat([]api.Expr{{}}, maxOps-2)...)),
		apply(api.OpOr, below(tree(100, null)), below(tree(97, null))),
	}
	for i, e := range fine {
		atPlaces(t, i, e, api.OK)
	}
	for i, e := range []api.Expr{
		below(chain(api.OpName, api.MaxDepth-1, named("z.z"))), below(slices.Repeat([]api.Expr{named("z.z")}, maxOps)...), below(tree(maxOps, api.Expr{})),
		chain(api.OpNot, api.MaxDepth-1, below(num(1))), apply(api.OpNot, below(slices.Repeat([]api.Expr{{}}, maxOps-1)...)),
		apply(api.OpOr, below(tree(100, null)), below(tree(98, null))), apply(api.OpOr, below(tree(maxOps, null)), named("z.z")),
	} {
		everywhere(t, i, e, api.ErrLong)
	}
	s := plain()
	s.From[0].Alias = "x"
	s.Items = []api.Item{{E: apply(api.OpNot, below(num(1), named("a")))}}
	like(t, "dropped", query(s), api.Bound{Blocks: []api.Block{{Tables: []int{0}, Core: 1, Items: []api.Item{{E: apply(api.OpNot, ref(0, 2))}}}}, Cols: []int{api.Bool}})
}

// TestEndless: P1, expressions that contain themselves, or stand in more places than can be visited.
func TestEndless(t *testing.T) {
	for _, op := range []int{0, api.OpConst, api.OpName, api.OpNot, api.OpAnd, api.OpAdd} {
		loop := make([]api.Expr, 2)
		loop[0] = api.Expr{Op: op, L: loop}
		loop[1] = loop[0]
		everywhere(t, "loop", loop[0], api.ErrLong)
		e := num(1)
		for range 100 {
			e = apply(op, e, e)
		}
		everywhere(t, "wide", e, api.ErrLong)
	}
	for _, i := range []api.Item{{Agg: api.AggCount}, {Agg: 9}} {
		loop := make([]api.Expr, 1)
		loop[0] = api.Expr{L: loop}
		s := plain()
		i.E = loop[0]
		s.Items = []api.Item{i}
		ends(t, i.Agg, tables(), nil, query(s), api.ErrArg)
	}
}

// froms is a FROM of tables of those kinds, with an ON where it must be.
func froms(kinds ...int) []api.From {
	var out []api.From
	for i, k := range kinds {
		f := api.From{Table: "t", Alias: "n" + strconv.Itoa(i), Kind: k}
		if k != api.Inner {
			f.On = []api.Expr{yes}
		}
		out = append(out, f)
	}
	return out
}

// TestKinds: P10.1, step 1, how tables come in: all lists of up to seven kinds, against the chapter's words.
func TestKinds(t *testing.T) {
	kinds := []int{api.Inner, api.Left, api.Semi, 3}
	var check func(l []int)
	check = func(l []int) {
		core, outer, want := 0, 0, api.OK
		for _, k := range l {
			if k == 3 || k == api.Inner && outer > 0 {
				want = api.ErrArg
			}
			if k == api.Inner {
				core++
			} else {
				outer++
			}
		}
		if core < 1 || core > api.MaxCore || outer > api.MaxOuter {
			want = api.ErrArg
		}
		s := api.Select{From: froms(l...), Items: []api.Item{{E: num(1)}}}
		b, e := bind.Bind(tables(), nil, query(s))
		if e != want {
			t.Fatal(l, e, want)
		}
		if e == api.OK {
			if x := b.Blocks[0]; x.Core != core || !slices.Equal(x.Kinds, l[core:]) || len(x.Tables) != len(l) || len(x.On) != outer {
				t.Fatal(l, x)
			}
		}
		if len(l) < 7 {
			for _, k := range kinds {
				check(append(slices.Clone(l), k))
			}
		}
	}
	check(nil)
	for _, k := range []int{-1, 3, 4, math.MaxInt, math.MinInt} {
		for i := range 3 {
			s := plain()
			s.From = froms(api.Inner, api.Inner, api.Left)
			s.From[i].Kind = k
			ends(t, k, tables(), nil, query(s), api.ErrArg)
		}
	}
}

// TestTables: P10.1, step 1, the names of tables and what they are called.
func TestTables(t *testing.T) {
	isBlock(t, "SELECT 1 FROM v, u x, t, u LEFT JOIN t y ON TRUE SEMI JOIN v z ON FALSE", api.Block{
		Tables: []int{2, 1, 0, 1, 0, 2}, Core: 4, Kinds: []int{api.Left, api.Semi}, On: []api.Expr{yes, no}, Items: []api.Item{{E: num(1)}},
	}, api.Int)
	for _, s := range []string{
		"w", "t, w", "w, t", "t x, x", "tt", "t LEFT JOIN w ON TRUE", "t SEMI JOIN w ON TRUE", "t, t", "t, u t", "u, t u", "t x, u x", "t x, u, v x", "t, u x, v x, t y",
		"t LEFT JOIN t ON TRUE", "t SEMI JOIN t ON TRUE", "t SEMI JOIN u t ON TRUE", "t LEFT JOIN u x ON TRUE SEMI JOIN v x ON TRUE", "t SEMI JOIN u x ON TRUE SEMI JOIN v x ON TRUE",
	} {
		fails(t, "SELECT 1 FROM "+s, api.ErrName)
		fails(t, "SELECT z FROM "+s+" WHERE 1 + 'x'", api.ErrName)
	}
	fails(t, "SELECT 1 FROM t u, u t", api.OK)
	fails(t, "SELECT 1 FROM t, u x, u y, v t1 LEFT JOIN t t2 ON TRUE SEMI JOIN t t3 ON TRUE", api.OK)
	for _, name := range []string{"", "T", "t ", "t.a", strings.Repeat("t", 1000)} {
		s := plain()
		s.From[0].Table = name
		ends(t, name, tables(), nil, query(s), api.ErrName)
	}
	s := plain()
	s.From = []api.From{{Table: "t"}, {Table: "u"}}
	ends(t, "both called nothing", tables(), nil, query(s), api.ErrName)
	var eight []api.Table
	for i := range api.MaxTables {
		eight = append(eight, api.Table{Name: "t" + strconv.Itoa(i), Cols: []api.Column{{Name: "c" + strconv.Itoa(i), Kind: api.Int}}})
	}
	for i := range eight {
		b, e := bind.Bind(eight, nil, read(t, fmt.Sprintf("SELECT c%d FROM t%d", i, i)))
		if e != api.OK || !slices.Equal(b.Blocks[0].Tables, []int{i}) {
			t.Error(i, b, e)
		}
	}
}

// TestOn: P10.1, step 2, how many expressions an ON has, and where they come to stand.
func TestOn(t *testing.T) {
	for _, x := range []struct{ kind, many int }{{api.Inner, 0}, {api.Inner, 1}, {api.Inner, 2}, {api.Inner, 3}, {api.Left, 0}, {api.Left, 1}, {api.Left, 2}, {api.Semi, 0}, {api.Semi, 1}, {api.Semi, 2}} {
		want := api.ErrArg
		if x.many == 1 || x.many == 0 && x.kind == api.Inner {
			want = api.OK
		}
		s := plain()
		s.From = froms(api.Inner, x.kind)
		s.From[1].On = slices.Repeat([]api.Expr{yes}, x.many)
		s.Items[0].E = num(1)
		ends(t, x, tables(), nil, query(s), want)
	}
	for many := range 4 {
		s := plain()
		s.From[0].On = slices.Repeat([]api.Expr{yes}, many)
		want := api.OK
		if many > 1 {
			want = api.ErrArg
		}
		ends(t, many, tables(), nil, query(s), want)
	}
	and := func(l ...api.Expr) api.Expr { return apply(api.OpAnd, l...) }
	is := func(s string) api.Expr { return apply(api.OpIs, named(s)) }
	s := plain()
	s.From = froms(api.Inner, api.Inner, api.Left, api.Semi)
	s.From[0].On = []api.Expr{and(and(is("n0.a"), is("b")), is("n0.d"))}
	s.From[1].On = []api.Expr{and(is("n1.a"), and(null, and(is("n0.b"), no)))}
	s.From[2].On = []api.Expr{and(is("n2.a"), and(is("n0.b"), yes))}
	s.From[3].On = []api.Expr{and(and(is("n3.a"), is("n2.b")), null)}
	s.Items[0].E = num(1)
	s.Where = []api.Expr{and(is("n1.d"), is("n2.d"))}
	r := func(rel, col int) api.Expr { return apply(api.OpIs, ref(rel, col)) }
	like(t, "ons", query(s), api.Bound{Blocks: []api.Block{{
		Tables: []int{0, 0, 0, 0}, Core: 2, Kinds: []int{api.Left, api.Semi},
		On:    []api.Expr{and(r(2, 0), and(r(0, 1), yes)), and(and(r(3, 0), r(2, 1)), null)},
		Conds: []api.Expr{r(0, 0), r(0, 1), r(0, 2), r(1, 0), r(0, 1), r(1, 2)}, After: []api.Expr{null, no, r(2, 2)},
		Items: []api.Item{{E: num(1)}},
	}}, Cols: []int{api.Int}})
}

// TestConditionKinds: P10.1, steps 2 and 3, an ON and a WHERE are Bool or Null, and an ON does not reckon.
func TestConditionKinds(t *testing.T) {
	where := []string{"t JOIN u ON %s", "t, u JOIN v ON %s", "t LEFT JOIN u ON %s", "t SEMI JOIN u ON %s", "u WHERE %s", "t, u WHERE %s"}
	for s, want := range map[string]api.Errno{
		"TRUE": api.OK, "NULL": api.OK, "u.c": api.OK, "$3": api.OK, "u.a = 1": api.OK, "u.a = NULL": api.OK, "NOT NULL": api.OK, "NULL AND u.c": api.OK, "u.a IS NULL": api.OK, "u.a = $3": api.OK, "u.a < $1": api.OK,
		"1": api.ErrType, "'x'": api.ErrType, "u.a": api.ErrType, "$1": api.ErrType, "$2": api.ErrType, "u.a = 'x'": api.ErrType, "u.a = $2": api.ErrType, "u.a AND TRUE": api.ErrType, "NOT 1": api.ErrType, "u.c < 1": api.ErrType, "(1 = 'x') IS NULL": api.ErrType, "TRUE AND 1": api.ErrType,
		"u.z": api.ErrName, "$4": api.ErrArg, "$4 IS NULL": api.ErrArg, "$4 AND 1": api.ErrArg, "u.z AND $4": api.ErrName,
		"u.a + 1": api.ErrType, "-u.a": api.ErrType, "'x' + 1 = 2": api.ErrType,
	} {
		for _, x := range where {
			fails(t, "SELECT 1 FROM "+fmt.Sprintf(x, s), want)
		}
	}
	for _, s := range []string{"u.a + 1 = 2", "u.a - 1 = 2", "u.a * 1 = 2", "u.a / 1 = 2", "-u.a = 2", "-1 IS NULL", "u.c AND NULL + NULL IS NULL", "TRUE OR 1 / 0 = 1"} {
		for i, x := range where {
			want := api.OK
			if i < 4 {
				want = api.ErrUnsafe
			}
			fails(t, "SELECT 1 FROM "+fmt.Sprintf(x, s), want)
		}
	}
	s := plain()
	for many := range 4 {
		s.Where = slices.Repeat([]api.Expr{yes}, many)
		want := api.OK
		if many > 1 {
			want = api.ErrArg
		}
		ends(t, many, tables(), nil, query(s), want)
	}
}

// TestConditions: P10.1, step 4, which list a condition is added to, and in which order.
func TestConditions(t *testing.T) {
	c, a, u := "conds", "after", "unsafe"
	for s, want := range map[string]string{
		"u.c": c, "t.a = u.a": c, "t.a = 1": c, "t.d IS NULL": c, "t.d OR u.c": c, "NOT (t.d AND u.c)": c, "t.a = $1": c, "t.d OR TRUE": c, "t.b = t.b": c,
		"TRUE": a, "NULL": a, "$3": a, "1 = $1": a, "x.c": a, "x.a = 1": a, "x.a = t.a": a, "t.d OR x.c OR u.c": a, "x.c IS NULL": a, "NOT FALSE": a,
		"1 + 1 = 2": u, "t.a + 1 = 2": u, "-u.a = t.a": u, "x.a * 2 = 4": u, "x.a = t.a - 1": u, "t.d OR 1 / 0 = 1": u, "(-t.a) IS NULL": u, "NOT (1 - 1 = $1)": u,
	} {
		b, e := bind.Bind(tables(), params(), read(t, "SELECT 1 FROM t, u LEFT JOIN u x ON TRUE SEMI JOIN u y ON TRUE WHERE "+s))
		if e != api.OK {
			t.Fatal(s, e)
		}
		x := b.Blocks[0]
		for name, l := range map[string][]api.Expr{c: x.Conds, a: x.After, u: x.Unsafe} {
			if want == name && len(l) != 1 || want != name && len(l) != 0 {
				t.Errorf("%q: %s has %v", s, name, l)
			}
		}
	}
	eq := func(rel, n int) api.Expr { return apply(api.OpEq, ref(rel, 0), num(n)) }
	sum := func(rel, n int) api.Expr { return apply(api.OpEq, apply(api.OpAdd, ref(rel, 0), num(1)), num(n)) }
	isBlock(t, "SELECT 1 FROM t JOIN u ON t.a = 1 AND u.a = 2 AND t.a = 3 AND TRUE JOIN t z ON NULL AND z.a = 4 LEFT JOIN u x ON x.a = 0 "+
		"WHERE x.a = 5 AND x.a + 1 = 6 AND z.a = 7 AND (t.a + 1 = 8 AND u.a = 9 AND (x.a = 10 AND x.a = 10)) AND (u.a = 11 OR TRUE) AND z.a = 7 AND x.a + 1 = 12",
		api.Block{
			Tables: []int{0, 1, 0, 1}, Core: 3, Kinds: []int{api.Left}, On: []api.Expr{eq(3, 0)},
			Conds:  []api.Expr{eq(0, 1), eq(1, 2), eq(0, 3), eq(2, 4), eq(2, 7), eq(1, 9), apply(api.OpOr, eq(1, 11), yes), eq(2, 7)},
			After:  []api.Expr{yes, null, eq(3, 5), eq(3, 10), eq(3, 10)},
			Unsafe: []api.Expr{sum(3, 6), sum(0, 8), sum(3, 12)},
			Items:  []api.Item{{E: num(1)}},
		}, api.Int)
	// A Semi table is not one of the core, even if there is a reference to it.
	s := plain()
	s.From = froms(api.Inner, api.Inner, api.Inner, api.Inner, api.Semi)
	s.Items[0].E = num(1)
	s.Where = []api.Expr{apply(api.OpAnd, ref(4, 2), apply(api.OpAnd, apply(api.OpOr, ref(4, 2), ref(3, 2)), ref(3, 2)))}
	b, e := bind.Bind(tables(), nil, query(s))
	if e != api.OK || len(b.Blocks[0].Conds) != 1 || len(b.Blocks[0].After) != 2 {
		t.Error(b, e)
	}
}

// all is the AND of l, as shallow as it can be.
func all(l ...api.Expr) api.Expr {
	if len(l) == 1 {
		return l[0]
	}
	return apply(api.OpAnd, all(l[:len(l)/2]...), all(l[len(l)/2:]...))
}

// TestManyConditions: P10.1, step 4, each list has at most MaxConds elements.
func TestManyConditions(t *testing.T) {
	many := func(e api.Expr, n int) []api.Expr { return slices.Repeat([]api.Expr{e}, n) }
	conds, after, unsafe := named("t.d"), yes, apply(api.OpEq, apply(api.OpNeg, named("t.a")), num(1))
	s := plain()
	s.From = append(s.From, api.From{Table: "u", Alias: "u", On: []api.Expr{yes}}, api.From{Table: "u", Alias: "x", Kind: api.Left, On: []api.Expr{yes}})
	s.Items[0].E = num(1)
	numbers := []int{0, 1, 6, 11, 12, 13, 14, 20}
	for _, c := range numbers {
		for _, a := range numbers {
			for _, u := range numbers {
				want := api.OK
				if c > 12 || a+2 > 12 || u > 12 {
					want = api.ErrLong
				}
				s.Where = []api.Expr{all(slices.Concat(many(conds, c), many(unsafe, u), many(after, a), []api.Expr{named("x.c")})...)}
				ends(t, fmt.Sprint(c, " ", a, " ", u), tables(), nil, query(s), want)
			}
		}
	}
	for n, want := range map[int]api.Errno{11: api.OK, 12: api.OK, 13: api.ErrLong, 40: api.ErrLong} {
		s.Where = nil
		s.From[1].On = []api.Expr{all(many(conds, n)...)}
		ends(t, n, tables(), nil, query(s), want)
		s.From[1].On = []api.Expr{all(many(conds, n-6)...)}
		s.Where = []api.Expr{all(many(conds, 6)...)}
		ends(t, n, tables(), nil, query(s), want)
		s.From[1].On = []api.Expr{all(many(yes, n-6)...)}
		s.Where = []api.Expr{all(many(named("x.c"), 6)...)}
		ends(t, n, tables(), nil, query(s), want)
		s.From[1].On = nil
		s.From[2].On = []api.Expr{all(many(conds, n)...)}
		s.Where = []api.Expr{apply(api.OpOr, all(many(conds, n)...), no)}
		ends(t, n, tables(), nil, query(s), api.OK)
		s.From[2].On = []api.Expr{yes}
	}
}

// TestGroup: P10.1, step 5, what is grouped by.
func TestGroup(t *testing.T) {
	isBlock(t, "SELECT a FROM t GROUP BY b, a, b, a = 1, NULL, $1", api.Block{
		Tables: []int{0}, Core: 1, Grouped: true,
		Keys:  []api.Expr{ref(0, 1), ref(0, 0), ref(0, 1), apply(api.OpEq, ref(0, 0), num(1)), null, param(1)},
		Items: []api.Item{{E: ref(0, 0)}},
	}, api.Int)
	for n, want := range map[int]api.Errno{0: api.OK, 1: api.OK, 7: api.OK, 8: api.OK, 9: api.ErrLong, 100: api.ErrLong} {
		s := plain()
		s.Group = slices.Repeat([]api.Expr{named("a")}, n)
		ends(t, n, tables(), nil, query(s), want)
		s.Group = append(s.Group, named("z"))
		if want != api.ErrLong {
			want = api.ErrName
		}
		if n == 8 {
			want = api.ErrLong
		}
		ends(t, n, tables(), nil, query(s), want)
	}
	for s, want := range map[string]api.Errno{
		"z": api.ErrName, "$4": api.ErrArg, "NOT 1": api.ErrType, "a = b": api.ErrType, "b + 1": api.ErrType, "a + 1": api.ErrUnsafe, "-a": api.ErrUnsafe, "a * 1": api.ErrUnsafe, "a / 1": api.ErrUnsafe, "a - 1 = 2": api.ErrUnsafe,
		"a": api.OK, "1": api.OK, "'x'": api.OK, "b IS NULL": api.OK, "d AND a = 1": api.OK,
		"a, z": api.ErrName, "a, a + 1": api.ErrUnsafe, "a + 1, z": api.ErrUnsafe, "z, a + 1": api.ErrName, "NOT 1, z": api.ErrType,
	} {
		fails(t, "SELECT COUNT(*) FROM t GROUP BY "+s, want)
	}
}

// TestItems: P10.1, step 6, items of all sorts.
func TestItems(t *testing.T) {
	for n, want := range map[int]api.Errno{0: api.ErrLong, 1: api.OK, 8: api.OK, 9: api.ErrLong, 50: api.ErrLong} {
		s := plain()
		s.Items = slices.Repeat([]api.Item{{E: named("a")}}, n)
		ends(t, n, tables(), nil, query(s), want)
		s.Items = slices.Repeat([]api.Item{{E: named("z")}}, n)
		if want == api.OK {
			want = api.ErrName
		}
		ends(t, n, tables(), nil, query(s), want)
	}
	for _, agg := range []int{-1, 6, 7, math.MaxInt, math.MinInt} {
		s := plain()
		for _, e := range []api.Expr{named("a"), {}, named("z"), tree(maxOps+1, yes)} {
			s.Items = []api.Item{{Agg: agg, E: e}}
			ends(t, agg, tables(), nil, query(s), api.ErrArg)
		}
	}
	for i, e := range []api.Expr{
		{Op: 1}, {Op: -1}, {V: integer(0)}, {V: api.Value{N: 1}}, {V: api.Value{S: "x"}}, {Rel: 1}, {Col: -1}, {N: 1}, {S: "x"}, {L: []api.Expr{{}}}, named("a"), named("z"), yes, chain(0, 50, api.Expr{}),
	} {
		s := plain()
		s.Items = []api.Item{{Agg: api.AggCount, E: e}}
		ends(t, i, tables(), nil, query(s), api.ErrArg)
	}
	s := plain()
	s.Items = []api.Item{{Agg: api.AggCount, E: api.Expr{L: []api.Expr{}}}}
	like(t, "no operands", query(s), api.Bound{Blocks: []api.Block{{Tables: []int{0}, Core: 1, Grouped: true, Items: []api.Item{over}}}, Cols: []int{api.Int}})
	for s, want := range map[string]api.Errno{
		"z": api.ErrName, "$4": api.ErrArg, "NOT a": api.ErrType, "a = b": api.ErrType, "a + b": api.ErrType, "NULL": api.OK, "a + 1": api.OK, "1 / 0": api.OK, "a = 1": api.OK,
	} {
		for _, x := range []string{"", "COUNT", "MIN", "MAX"} {
			fails(t, "SELECT "+x+"("+s+") FROM t", want)
			fails(t, "SELECT 1 AND TRUE, "+x+"("+s+") FROM t", api.ErrType)
			if want != api.OK {
				fails(t, "SELECT COUNT(*), "+x+"("+s+"), z FROM t", want)
			}
		}
	}
}

// TestSum: P10.1, step 6, a SUM is of Ints or Nulls.
func TestSum(t *testing.T) {
	for s, want := range map[string]api.Errno{
		"a": api.OK, "1": api.OK, "NULL": api.OK, "$1": api.OK, "$3": api.OK, "a + 1": api.OK, "-NULL": api.OK, "1 / 0": api.OK,
		"b": api.ErrType, "d": api.ErrType, "'1'": api.ErrType, "TRUE": api.ErrType, "$2": api.ErrType, "a = 1": api.ErrType, "a IS NULL": api.ErrType, "NULL = NULL": api.ErrType,
		"z": api.ErrName, "$4": api.ErrArg, "-b": api.ErrType,
	} {
		fails(t, "SELECT SUM("+s+") FROM t", want)
	}
	for _, s := range []string{"COUNT", "MIN", "MAX"} {
		for _, e := range []string{"a", "b", "d", "NULL", "a = 1"} {
			fails(t, "SELECT "+s+"("+e+") FROM t", api.OK)
		}
	}
}

// TestGrouped: P10.1, step 6, whether a select is grouped, and which items it may have then.
func TestGrouped(t *testing.T) {
	for s, want := range map[string]bool{
		"SELECT a FROM t": false, "SELECT DISTINCT a FROM t": false, "SELECT a FROM t GROUP BY a": true, "SELECT COUNT(*) FROM t": true, "SELECT COUNT(a) FROM t": true, "SELECT SUM(a) FROM t": true, "SELECT MIN(a) FROM t": true, "SELECT MAX(a) FROM t": true,
		"SELECT a, COUNT(*) FROM t GROUP BY a": true, "SELECT COUNT(*) FROM t GROUP BY a": true, "SELECT a + 1 FROM t": false, "SELECT a, a, a FROM t GROUP BY b, a": true,
	} {
		b, e := bind.Bind(tables(), params(), read(t, s))
		if e != api.OK || b.Blocks[0].Grouped != want || b.Blocks[0].Distinct != strings.Contains(s, "DISTINCT") {
			t.Error(s, b, e)
		}
	}
	for s, want := range map[string]api.Errno{
		"a FROM t GROUP BY t.a": api.OK, "t.a FROM t GROUP BY a": api.OK, "b FROM t GROUP BY a, b": api.OK, "a, b, a FROM t GROUP BY b, a": api.OK, "1 FROM t GROUP BY 1": api.OK, "a = 1 FROM t GROUP BY a = 1": api.OK, "$1 FROM t GROUP BY $1": api.OK, "NULL FROM t GROUP BY NULL": api.OK, "(a) FROM t GROUP BY ((a))": api.OK,
		"x.a FROM t x, t y GROUP BY x.a": api.OK, "SUM(b = 'x' OR d) FROM t": api.ErrType, "MAX(b), COUNT(*) FROM t": api.OK, "MIN(a + 1) FROM t GROUP BY b": api.OK,
		"a FROM t GROUP BY b": api.ErrGroup, "a, COUNT(*) FROM t": api.ErrGroup, "COUNT(*), a FROM t": api.ErrGroup, "1, COUNT(*) FROM t": api.ErrGroup, "NULL, SUM(a) FROM t": api.ErrGroup, "a FROM t GROUP BY a = 1": api.ErrGroup, "a = 1 FROM t GROUP BY a": api.ErrGroup, "1 = a FROM t GROUP BY a = 1": api.ErrGroup,
		"a + 1 FROM t GROUP BY a": api.ErrGroup, "2 FROM t GROUP BY 1": api.ErrGroup, "'1' FROM t GROUP BY 1": api.ErrGroup, "y.a FROM t x, t y GROUP BY x.a": api.ErrGroup, "a, b FROM t GROUP BY a": api.ErrGroup, "b, a FROM t GROUP BY a": api.ErrGroup, "$2 FROM t GROUP BY $1": api.ErrGroup, "3 FROM t GROUP BY $1": api.ErrGroup,
		"a, MAX(a) FROM t": api.ErrGroup, "a, MIN(a) FROM t": api.ErrGroup, "a, COUNT(a) FROM t": api.ErrGroup, "a, z, COUNT(a) FROM t": api.ErrName, "a, SUM(b) FROM t": api.ErrType,
	} {
		fails(t, "SELECT "+s, want)
	}
}

// TestUnion: P10.1, the items of all selects fit together; the kinds of the columns.
func TestUnion(t *testing.T) {
	kinds := map[string]int{
		"a": api.Int, "b": api.Text, "d": api.Bool, "NULL": api.Null, "1": api.Int, "'x'": api.Text, "TRUE": api.Bool, "a + 1": api.Int, "-NULL": api.Int, "NULL = NULL": api.Bool, "NOT NULL": api.Bool, "b IS NULL": api.Bool, "$1": api.Int, "$2": api.Text, "$3": api.Null,
		"COUNT(*)": api.Int, "COUNT(b)": api.Int, "COUNT(NULL)": api.Int, "COUNT(d)": api.Int, "SUM(a)": api.Int, "SUM(NULL)": api.Int, "MIN(a)": api.Int, "MIN(b)": api.Text, "MIN(NULL)": api.Null, "MAX(d)": api.Bool, "MAX(NULL)": api.Null, "MAX(b)": api.Text,
	}
	for x, k := range kinds {
		b, e := bind.Bind(tables(), params(), read(t, "SELECT "+x+" FROM t"))
		if e != api.OK || !slices.Equal(b.Cols, []int{k}) {
			t.Error(x, b, e)
		}
		for y, m := range kinds {
			want, col := api.OK, k
			if k == api.Null {
				col = m
			} else if m != api.Null && m != k {
				want = api.ErrUnion
			}
			s := "SELECT " + x + " FROM t UNION ALL SELECT " + y + " FROM t"
			fails(t, s, want)
			fails(t, "SELECT NULL FROM t UNION ALL SELECT "+x+" FROM t UNION ALL SELECT $3 FROM u UNION ALL SELECT "+y+" FROM t", want)
			b, e := bind.Bind(tables(), params(), read(t, s))
			if e == api.OK && (!slices.Equal(b.Cols, []int{col}) || len(b.Blocks) != 2) {
				t.Error(s, b, e)
			}
		}
	}
	for s, want := range map[string]api.Errno{
		"SELECT a, b, NULL FROM t UNION ALL SELECT NULL, 'x', d FROM t UNION ALL SELECT 1, NULL, TRUE FROM v": api.OK,
		"SELECT a FROM t UNION ALL SELECT a, a FROM t":                                                        api.ErrUnion, "SELECT a, a FROM t UNION ALL SELECT a FROM t": api.ErrUnion, "SELECT a FROM t UNION ALL SELECT a FROM t UNION ALL SELECT a, NULL FROM t": api.ErrUnion,
		"SELECT a, b FROM t UNION ALL SELECT b, a FROM t": api.ErrUnion, "SELECT a, b FROM t UNION ALL SELECT a, a FROM t": api.ErrUnion, "SELECT NULL FROM t UNION ALL SELECT a FROM t UNION ALL SELECT b FROM t": api.ErrUnion, "SELECT a FROM t UNION ALL SELECT NULL FROM t UNION ALL SELECT b FROM t": api.ErrUnion,
		"SELECT a FROM t UNION ALL SELECT z FROM t": api.ErrName, "SELECT a FROM t UNION ALL SELECT b FROM t UNION ALL SELECT z FROM t": api.ErrName,
	} {
		fails(t, s, want)
	}
	is(t, "SELECT NULL, a FROM t UNION ALL SELECT b, NULL FROM t", api.Bound{
		Blocks: []api.Block{{Tables: []int{0}, Core: 1, Items: []api.Item{{E: null}, {E: ref(0, 0)}}}, {Tables: []int{0}, Core: 1, Items: []api.Item{{E: ref(0, 1)}, {E: null}}}},
		Cols:   []int{api.Text, api.Int},
	})
}

// TestManySelects: P10.1, at most MaxBlocks selects and MaxItems keys, which is found behind all selects.
func TestManySelects(t *testing.T) {
	for n := 1; n <= 8; n++ {
		want := api.OK
		if n > api.MaxBlocks {
			want = api.ErrLong
		}
		q := query(slices.Repeat([]api.Select{plain()}, n)...)
		ends(t, n, tables(), nil, q, want)
		q.Order = []api.Key{{Col: 1}}
		if want == api.OK {
			want = api.ErrOrder
		}
		ends(t, n, tables(), nil, q, want)
		last := plain()
		last.Items[0].E = named("b")
		q.Selects = append(q.Selects, last)
		ends(t, n, tables(), nil, q, api.ErrUnion)
		last.Items[0].E = named("z")
		ends(t, n, tables(), nil, q, api.ErrName)
	}
	for n := range 20 {
		want := api.OK
		if n > api.MaxItems {
			want = api.ErrLong
		}
		q := query(plain())
		q.Order = make([]api.Key, n)
		ends(t, n, tables(), nil, q, want)
		q.Order = append(q.Order, api.Key{Col: 1})
		if n >= api.MaxItems {
			want = api.ErrLong
		} else {
			want = api.ErrOrder
		}
		ends(t, n, tables(), nil, q, want)
	}
}

// TestOrder: P10.1, the keys of an ORDER BY.
func TestOrder(t *testing.T) {
	for _, x := range []struct {
		cols int
		l    []int
		want api.Errno
	}{
		{1, []int{0}, api.OK}, {1, []int{1}, api.ErrOrder}, {1, []int{-1}, api.ErrOrder}, {1, []int{math.MaxInt}, api.ErrOrder}, {1, []int{math.MinInt}, api.ErrOrder}, {2, []int{1, 0, 1}, api.OK},
		{2, []int{0, 1, 2}, api.ErrOrder}, {2, []int{2, 0}, api.ErrOrder}, {8, []int{7, 6, 5, 4, 3, 2, 1, 0}, api.OK}, {8, []int{7, 6, 5, 4, 3, 2, 1, 8}, api.ErrOrder}, {3, nil, api.OK},
	} {
		s := plain()
		s.Items = slices.Repeat(s.Items, x.cols)
		q := query(s)
		for i, c := range x.l {
			q.Order = append(q.Order, api.Key{Col: c, Desc: i%2 == 0})
		}
		b, e := bind.Bind(tables(), nil, q)
		if e != x.want || e == api.OK && !slices.Equal(b.Order, q.Order) {
			t.Error(x, b, e)
		}
	}
}

// TestCols: P10.2, the kinds of the columns of the tables of a block.
func TestCols(t *testing.T) {
	for _, x := range []struct {
		tables []int
		want   [][]int
	}{
		{nil, nil}, {[]int{0}, [][]int{{1, 3, 2}}}, {[]int{1}, [][]int{{1, 2}}}, {[]int{2, 0}, [][]int{{3, 1}, {1, 3, 2}}}, {[]int{1, 1, 1}, [][]int{{1, 2}, {1, 2}, {1, 2}}},
		{[]int{3}, nil}, {[]int{-1}, nil}, {[]int{0, 3}, nil}, {[]int{-1, 0}, nil}, {[]int{0, 1, 2, math.MaxInt}, nil}, {[]int{0, math.MinInt, 1}, nil},
	} {
		for _, b := range []api.Block{{Tables: x.tables}, {Tables: x.tables, Core: -7, Kinds: []int{5}, Keys: []api.Expr{{}}}} {
			if c := bind.Cols(tables(), b); shown(c) != shown(x.want) {
				t.Error(x, c)
			}
		}
	}
	if c := bind.Cols(nil, api.Block{Tables: []int{0}}); len(c) > 0 {
		t.Error(c)
	}
	if c := bind.Cols(nil, api.Block{}); len(c) > 0 {
		t.Error(c)
	}
	odd := []api.Table{{}, {Cols: []api.Column{{Kind: -5}, {Name: "x", Kind: math.MaxInt}}}}
	if c := bind.Cols(odd, api.Block{Tables: []int{1, 0}}); shown(c) != shown([][]int{{-5, math.MaxInt}, {}}) {
		t.Error(c)
	}
	long := slices.Repeat([]int{1}, 5000)
	if c := bind.Cols(tables(), api.Block{Tables: long}); len(c) != 5000 || !slices.Equal(c[4999], []int{1, 2}) {
		t.Error(len(c))
	}
}
