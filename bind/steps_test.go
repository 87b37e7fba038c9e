package bind_test

import (
	"slices"
	"strconv"
	"testing"

	"weathercock/api"
)

// fault is a change of a query that ends with an error. Of two that are found in different steps, the one with the lower step is found first.
type fault struct {
	step   int
	what   string
	change func(q *api.Query)
	want   api.Errno
}

// good is a query of two selects, each with something in every step, to which faults are added.
func good() api.Query {
	one := func() api.Select {
		return api.Select{
			Items: []api.Item{{E: named("x.a")}, over},
			From: []api.From{
				{Table: "t", Alias: "x", On: []api.Expr{named("x.d")}}, {Table: "u", Alias: "y", On: []api.Expr{named("y.c")}},
				{Table: "v", Alias: "z", Kind: api.Left, On: []api.Expr{apply(api.OpEq, named("z.f"), named("y.a"))}}, {Table: "v", Alias: "w", Kind: api.Semi, On: []api.Expr{apply(api.OpEq, named("w.f"), named("z.f"))}},
			},
			Where: []api.Expr{apply(api.OpLt, named("x.a"), named("z.f"))},
			Group: []api.Expr{named("x.a")},
		}
	}
	return api.Query{Selects: []api.Select{one(), one()}, Order: []api.Key{{Col: 1}}}
}

// badExpr is an expression that can't be bound, and why.
type badExpr struct {
	e    api.Expr
	want api.Errno
}

// badExprs are the faults of one expression, each with all of those behind it: the first one is found.
func badExprs(condition, safe bool) []badExpr {
	var (
		long    = tree(maxOps+1, yes)
		nobody  = named("nobody")
		wrong   = api.Expr{Op: api.OpNot, S: "x", L: []api.Expr{null}}
		missing = param(4)
		unlike  = apply(api.OpEq, num(1), constant(text("x")))
		reckons = apply(api.OpIs, apply(api.OpNeg, num(1)))
		number  = apply(api.OpNeg, num(1))
	)
	of := func(l ...api.Expr) api.Expr { return apply(api.OpOr, all(l...), reckons) }
	out := []badExpr{
		{of(long, nobody, wrong, missing, unlike), api.ErrLong}, {of(unlike, missing, wrong, nobody, chain(api.OpNot, api.MaxDepth, yes)), api.ErrLong},
		{of(nobody, wrong, missing, unlike), api.ErrName}, {of(unlike, missing, wrong, nobody), api.ErrName},
		{of(wrong, missing, unlike), api.ErrArg}, {of(unlike, wrong), api.ErrArg}, {of(missing, unlike), api.ErrArg}, {of(unlike, missing), api.ErrArg}, {of(unlike, yes), api.ErrType},
	}
	if condition {
		out = append(out, badExpr{number, api.ErrType})
	}
	if safe {
		out = append(out, badExpr{reckons, api.ErrUnsafe}, badExpr{apply(api.OpAnd, yes, reckons), api.ErrUnsafe})
	}
	return out
}

// inSelect is faults of the i-th select; its steps begin at the number first.
type inSelect struct {
	i, first int
	faults   []fault
}

func (x *inSelect) add(step int, what string, want api.Errno, change func(s *api.Select)) {
	x.faults = append(x.faults, fault{x.first + step, "select " + strconv.Itoa(x.i) + ", " + what, func(q *api.Query) { change(&q.Selects[x.i]) }, want})
}

func (x *inSelect) addTables() {
	x.add(0, "a kind that is none", api.ErrArg, func(s *api.Select) { s.From[len(s.From)-1].Kind = 3 })
	x.add(0, "an Inner table behind", api.ErrArg, func(s *api.Select) { s.From[len(s.From)-1].Kind = api.Inner })
	x.add(0, "no Inner table", api.ErrArg, func(s *api.Select) { s.From = slices.Clone(s.From[2:]) })
	x.add(0, "no table", api.ErrArg, func(s *api.Select) { s.From = nil })
	x.add(0, "five Inner tables", api.ErrArg, func(s *api.Select) { s.From = append(froms(0, 0, 0), s.From...) })
	x.add(0, "three others", api.ErrArg, func(s *api.Select) { s.From = append(s.From, froms(api.Semi)...) })
	x.add(1, "a table that is not there", api.ErrName, func(s *api.Select) { s.From[3].Table = "x" })
	x.add(1, "an alias that is there twice", api.ErrName, func(s *api.Select) { s.From[3].Alias = "y" })
}

func (x *inSelect) addConditions() {
	for k := range 4 {
		on := "on " + strconv.Itoa(k) + ", "
		x.add(2+2*k, on+"two", api.ErrArg, func(s *api.Select) { s.From[k].On = []api.Expr{badExprs(true, true)[k].e, yes} })
		if k > 1 {
			x.add(2+2*k, on+"none", api.ErrArg, func(s *api.Select) { s.From[k].On = nil })
		}
		for _, b := range badExprs(true, true) {
			x.add(3+2*k, on+"error "+strconv.Itoa(int(b.want)), b.want, func(s *api.Select) { s.From[k].On = []api.Expr{b.e} })
		}
	}
	x.add(10, "where, two", api.ErrArg, func(s *api.Select) { s.Where = []api.Expr{badExprs(true, false)[x.i].e, yes} })
	for _, b := range badExprs(true, false) {
		x.add(11, "where, error "+strconv.Itoa(int(b.want)), b.want, func(s *api.Select) { s.Where = []api.Expr{b.e} })
	}
	for _, e := range []api.Expr{yes, named("x.d"), apply(api.OpIs, apply(api.OpNeg, num(1)))} {
		x.add(12, "too many conditions", api.ErrLong, func(s *api.Select) {
			s.Where = []api.Expr{all(slices.Repeat([]api.Expr{e}, api.MaxConds+1)...)}
		})
	}
}

func (x *inSelect) addItems() {
	x.add(13, "nine keys", api.ErrLong, func(s *api.Select) { s.Group = append(slices.Repeat(s.Group, 8), badExprs(false, true)[x.i].e) })
	for k := range 2 {
		for _, b := range badExprs(false, true) {
			x.add(14+k, "key "+strconv.Itoa(k)+", error "+strconv.Itoa(int(b.want)), b.want, func(s *api.Select) {
				s.Group = append(slices.Repeat([]api.Expr{named("x.a")}, k), append([]api.Expr{b.e}, s.Group...)...)
			})
		}
	}
	x.add(16, "no items", api.ErrLong, func(s *api.Select) { s.Items = nil })
	x.add(16, "nine items", api.ErrLong, func(s *api.Select) {
		s.Items = append([]api.Item{{Agg: -1, E: badExprs(false, false)[x.i].e}}, slices.Repeat(s.Items[:1], 8)...)
	})
	for k := range 2 {
		item := "item " + strconv.Itoa(k) + ", "
		put := func(i api.Item) func(s *api.Select) {
			return func(s *api.Select) {
				s.Items = append(slices.Repeat([]api.Item{over}, k), append([]api.Item{i}, s.Items...)...)
			}
		}
		for _, agg := range []int{-1, 6} {
			x.add(17+k, item+"an Agg that is none", api.ErrArg, put(api.Item{Agg: agg, E: badExprs(false, false)[0].e}))
		}
		x.add(17+k, item+"a COUNT(*) of something", api.ErrArg, put(api.Item{Agg: api.AggCount, E: badExprs(false, false)[2].e}))
		for _, b := range badExprs(false, false) {
			for _, agg := range []int{api.AggNone, api.AggOf, api.AggSum, api.AggMin, api.AggMax} {
				x.add(17+k, item+"error "+strconv.Itoa(int(b.want)), b.want, put(api.Item{Agg: agg, E: b.e}))
			}
		}
		x.add(17+k, item+"a SUM of Bools", api.ErrType, put(api.Item{Agg: api.AggSum, E: yes}))
	}
	lone := api.Item{E: named("y.a")}
	x.add(19, "ahead, neither key nor aggregate", api.ErrGroup, func(s *api.Select) { s.Items = append([]api.Item{lone}, s.Items...) })
	x.add(19, "behind, neither key nor aggregate", api.ErrGroup, func(s *api.Select) { s.Items = append(s.Items, lone) })
	x.add(19, "no key", api.ErrGroup, func(s *api.Select) { s.Group, s.Items = nil, []api.Item{{E: named("x.a")}, over} })
}

// faults are those of a query, in the order in which they are found, with the last steps behind all selects.
func faults() []fault {
	var out []fault
	for i := range 2 {
		x := inSelect{i: i, first: 100 * i}
		x.addTables()
		x.addConditions()
		x.addItems()
		out = append(out, x.faults...)
	}
	behind := func(step int, what string, want api.Errno, change func(q *api.Query)) {
		out = append(out, fault{200 + step, what, change, want})
	}
	behind(0, "an item more", api.ErrUnion, func(q *api.Query) { q.Selects[1].Items = append(q.Selects[1].Items, over) })
	behind(0, "an item less", api.ErrUnion, func(q *api.Query) { q.Selects[1].Items = q.Selects[1].Items[:1] })
	behind(0, "another kind", api.ErrUnion, func(q *api.Query) { q.Selects[1].Items[1] = api.Item{Agg: api.AggMax, E: yes} })
	behind(1, "five selects", api.ErrLong, func(q *api.Query) { q.Selects = append(q.Selects, slices.Repeat(good().Selects[:1], 3)...) })
	behind(1, "nine keys", api.ErrLong, func(q *api.Query) { q.Order = append(q.Order, make([]api.Key, 8)...) })
	for _, col := range []int{-1, 8} {
		behind(2, "no column", api.ErrOrder, func(q *api.Query) { q.Order[0].Col = col })
	}
	return out
}

// TestFaults: P10.1, every error of every step, alone.
func TestFaults(t *testing.T) {
	ends(t, "good", tables(), params(), good(), api.OK)
	for _, f := range faults() {
		q := good()
		f.change(&q)
		ends(t, f.what, tables(), params(), q, f.want)
	}
}

// TestFirst: P10.1, of any two errors of different steps the first one is returned: each step is completed before the next one, and each select.
func TestFirst(t *testing.T) {
	t.Parallel()
	l := faults()
	for _, f := range l {
		for _, g := range l {
			if f.step >= g.step {
				continue
			}
			q := good()
			g.change(&q)
			f.change(&q)
			ends(t, f.what+" and "+g.what, tables(), params(), q, f.want)
		}
	}
}
