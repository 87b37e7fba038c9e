package bind

import (
	"slices"

	"weathercock/api"
	"weathercock/expr"
)

// binder binds one select. Each step is a method, and none begins ahead of the end of the one before.
type binder struct {
	base
	from  []api.From
	b     api.Block
	cols  [][]int    // the kinds of the columns of the tables of b
	names scope      // behind the ONs
	conds []api.Expr // those of the ONs of Inner tables and of WHERE
	kinds []int      // of the items
}

// selection returns a select's block, and the kinds of its items.
func (x base) selection(s api.Select) (api.Block, []int) {
	y := binder{base: x, from: s.From, b: api.Block{Distinct: s.Distinct}}
	y.tables()
	y.ons()
	y.where(s.Where)
	y.conditions()
	y.group(s.Group)
	y.items(s.Items)
	return y.b, y.kinds
}

func (x *binder) tables() {
	for _, f := range x.from {
		switch f.Kind {
		case api.Inner:
			refuse(len(x.b.Kinds) > 0, api.ErrArg)
			x.b.Core++
		case api.Left, api.Semi:
			x.b.Kinds = append(x.b.Kinds, f.Kind)
		default:
			panic(api.ErrArg)
		}
	}
	refuse(x.b.Core < 1 || x.b.Core > api.MaxCore || len(x.b.Kinds) > api.MaxOuter, api.ErrArg)
	called := map[string]int{}
	for i, f := range x.from {
		at, ok := x.places[f.Table]
		refuse(!ok, api.ErrName)
		called[f.Alias] = i
		x.b.Tables = append(x.b.Tables, at)
	}
	refuse(len(called) < len(x.from), api.ErrName)
	x.cols = Cols(x.l, x.b)
	x.names = x.scope(func(rel int) bool { return x.from[rel].Kind != api.Semi })
}

func (x *binder) ons() {
	for i, f := range x.from {
		refuse(len(f.On) > 1 || len(f.On) == 0 && f.Kind != api.Inner, api.ErrArg)
		if len(f.On) == 0 {
			continue
		}
		names := x.scope(func(rel int) bool { return rel == i || rel < i && x.from[rel].Kind != api.Semi })
		e := x.condition(f.On[0], names)
		refuse(!expr.Safe(e), api.ErrUnsafe)
		if f.Kind == api.Inner {
			x.conds = append(x.conds, expr.Split(e)...)
		} else {
			x.b.On = append(x.b.On, e)
		}
	}
}

func (x *binder) where(l []api.Expr) {
	refuse(len(l) > 1, api.ErrArg)
	for _, e := range l {
		x.conds = append(x.conds, expr.Split(x.condition(e, x.names))...)
	}
}

// conditions tells those that ask the core alone from those that ask of what is behind it, and from those that reckon.
func (x *binder) conditions() {
	core := 1<<x.b.Core - 1
	for _, e := range x.conds {
		set := expr.Tables(e)
		to := &x.b.After
		if !expr.Safe(e) {
			to = &x.b.Unsafe
		} else if set != 0 && set&^core == 0 {
			to = &x.b.Conds
		}
		refuse(len(*to) == api.MaxConds, api.ErrLong)
		*to = append(*to, e)
	}
}

func (x *binder) group(l []api.Expr) {
	refuse(len(l) > api.MaxItems, api.ErrLong)
	for _, e := range l {
		e, _ := x.resolved(e, x.names)
		refuse(!expr.Safe(e), api.ErrUnsafe)
		x.b.Keys = append(x.b.Keys, e)
	}
}

func (x *binder) items(l []api.Item) {
	refuse(len(l) == 0 || len(l) > api.MaxItems, api.ErrLong)
	x.b.Grouped = len(x.b.Keys) > 0
	for _, i := range l {
		i, kind := x.item(i)
		x.b.Items = append(x.b.Items, i)
		x.kinds = append(x.kinds, kind)
		x.b.Grouped = x.b.Grouped || i.Agg != api.AggNone
	}
	for _, i := range x.b.Items {
		refuse(x.b.Grouped && i.Agg == api.AggNone && !x.isKey(i.E), api.ErrGroup)
	}
}

// isKey reports whether e is one of what is grouped by.
func (x *binder) isKey(e api.Expr) bool {
	return slices.ContainsFunc(x.b.Keys, func(k api.Expr) bool { return expr.Same(k, e) })
}

// item returns i with its names replaced, and its kind.
func (x *binder) item(i api.Item) (api.Item, int) {
	refuse(i.Agg < api.AggNone || i.Agg > api.AggMax, api.ErrArg)
	if i.Agg == api.AggCount {
		refuse(!isEmpty(i.E), api.ErrArg)
		return api.Item{Agg: i.Agg}, api.Int
	}
	e, kind := x.resolved(i.E, x.names)
	switch i.Agg {
	case api.AggSum:
		refuse(kind != api.Int && kind != api.Null, api.ErrType)
		kind = api.Int
	case api.AggOf:
		kind = api.Int
	}
	return api.Item{Agg: i.Agg, E: e}, kind
}

// condition returns e, which must be true or false or NULL, with its names replaced.
func (x *binder) condition(e api.Expr, names scope) api.Expr {
	e, kind := x.resolved(e, names)
	refuse(kind != api.Bool && kind != api.Null, api.ErrType)
	return e
}

// resolved returns e with its names replaced, and its kind.
func (x *binder) resolved(e api.Expr, names scope) (api.Expr, int) {
	refuse(!isSmall(e), api.ErrLong)
	e = names.replaced(e)
	// That e is valid now is Kind's to check.
	kind, err := expr.Kind(e, x.cols, x.params)
	refuse(err != api.OK, err)
	return e, kind
}

// scope returns the names of the columns of the tables that are visible.
func (x *binder) scope(visible func(rel int) bool) scope {
	s := scope{}
	for rel, f := range x.from {
		if visible(rel) {
			s.show(rel, f.Alias, x.l[x.b.Tables[rel]].Cols)
		}
	}
	return s
}
