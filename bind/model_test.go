package bind_test

import (
	"math/rand"
	"slices"
	"strconv"
	"testing"

	"weathercock/api"
	"weathercock/bind"
	"weathercock/expr"
)

// model binds a select by plain walks over lists, and answers its errors instead of panicking.
type model struct {
	l      []api.Table
	params []int
	s      api.Select
	b      api.Block
	conds  []api.Expr
	kinds  []int
}

// depthAndSize walks through all of e, which is finite and small here.
func depthAndSize(e api.Expr) (int, int) {
	depth, size := 0, 1
	for _, x := range e.L {
		d, n := depthAndSize(x)
		depth, size = max(depth, d), size+n
	}
	return depth + 1, size
}

// look returns the only column that a name has among the visible tables.
func (m *model) look(e api.Expr, visible []int) (api.Expr, api.Errno) {
	var all []api.Expr
	for _, rel := range visible {
		if e.S != "" && e.S != m.s.From[rel].Alias {
			continue
		}
		for col, c := range m.l[m.b.Tables[rel]].Cols {
			if c.Name == e.V.S {
				all = append(all, ref(rel, col))
			}
		}
	}
	if len(all) != 1 {
		return api.Expr{}, api.ErrName
	}
	return all[0], api.OK
}

func (m *model) replace(e api.Expr, visible []int) (api.Expr, api.Errno) {
	if e.Op == api.OpName {
		return m.look(e, visible)
	}
	var l []api.Expr
	for _, x := range e.L {
		x, err := m.replace(x, visible)
		if err != api.OK {
			return api.Expr{}, err
		}
		l = append(l, x)
	}
	e.L = l
	return e, api.OK
}

func (m *model) resolve(e api.Expr, visible []int) (api.Expr, int, api.Errno) {
	if depth, size := depthAndSize(e); depth > 20 || size > 200 {
		return api.Expr{}, 0, api.ErrLong
	}
	e, err := m.replace(e, visible)
	if err != api.OK {
		return api.Expr{}, 0, err
	}
	if !expr.Right(e) {
		return api.Expr{}, 0, api.ErrArg
	}
	var cols [][]int
	for _, at := range m.b.Tables {
		var kinds []int
		for _, c := range m.l[at].Cols {
			kinds = append(kinds, c.Kind)
		}
		cols = append(cols, kinds)
	}
	kind, err := expr.Kind(e, cols, m.params)
	return e, kind, err
}

// reckons reports whether there is arithmetic in e; refs returns its tables, with repetitions.
func reckons(e api.Expr) bool {
	for _, x := range e.L {
		if reckons(x) {
			return true
		}
	}
	return e.Op >= api.OpAdd && e.Op <= api.OpNeg
}

func refs(e api.Expr) []int {
	var out []int
	if e.Op == api.OpRef {
		out = append(out, e.Rel)
	}
	for _, x := range e.L {
		out = append(out, refs(x)...)
	}
	return out
}

func conjuncts(e api.Expr) []api.Expr {
	if e.Op != api.OpAnd {
		return []api.Expr{e}
	}
	return append(conjuncts(e.L[0]), conjuncts(e.L[1])...)
}

func (m *model) tables() api.Errno {
	inner, others := 0, 0
	for _, f := range m.s.From {
		if f.Kind != api.Inner && f.Kind != api.Left && f.Kind != api.Semi || f.Kind == api.Inner && others > 0 {
			return api.ErrArg
		}
		if f.Kind == api.Inner {
			inner++
		} else {
			others++
			m.b.Kinds = append(m.b.Kinds, f.Kind)
		}
	}
	if inner == 0 || inner > 4 || others > 2 {
		return api.ErrArg
	}
	m.b.Core = inner
	for i, f := range m.s.From {
		at := -1
		for k, t := range m.l {
			if t.Name == f.Table {
				at = k
			}
		}
		if at < 0 {
			return api.ErrName
		}
		for _, g := range m.s.From[:i] {
			if g.Alias == f.Alias {
				return api.ErrName
			}
		}
		m.b.Tables = append(m.b.Tables, at)
	}
	return api.OK
}

// truth resolves an ON or a WHERE.
func (m *model) truth(e api.Expr, visible []int, safe bool) (api.Expr, api.Errno) {
	e, kind, err := m.resolve(e, visible)
	if err != api.OK {
		return e, err
	}
	if kind != api.Bool && kind != api.Null {
		return e, api.ErrType
	}
	if safe && reckons(e) {
		return e, api.ErrUnsafe
	}
	return e, api.OK
}

func (m *model) ons() api.Errno {
	for i, f := range m.s.From {
		if len(f.On) == 0 && f.Kind == api.Inner {
			continue
		}
		if len(f.On) != 1 {
			return api.ErrArg
		}
		var visible []int
		for k, g := range m.s.From[:i+1] {
			if f.Kind == api.Inner || g.Kind == api.Inner || g.Kind == api.Left || k == i {
				visible = append(visible, k)
			}
		}
		e, err := m.truth(f.On[0], visible, true)
		if err != api.OK {
			return err
		}
		if f.Kind == api.Inner {
			m.conds = append(m.conds, conjuncts(e)...)
		} else {
			m.b.On = append(m.b.On, e)
		}
	}
	return api.OK
}

// seen are the tables that all behind the ONs sees.
func (m *model) seen() []int {
	var out []int
	for i, f := range m.s.From {
		if f.Kind != api.Semi {
			out = append(out, i)
		}
	}
	return out
}

func (m *model) where() api.Errno {
	if len(m.s.Where) > 1 {
		return api.ErrArg
	}
	if len(m.s.Where) == 1 {
		e, err := m.truth(m.s.Where[0], m.seen(), false)
		if err != api.OK {
			return err
		}
		m.conds = append(m.conds, conjuncts(e)...)
	}
	for _, e := range m.conds {
		inner, others := 0, 0
		for _, rel := range refs(e) {
			if rel < m.b.Core {
				inner++
			} else {
				others++
			}
		}
		switch {
		case reckons(e):
			m.b.Unsafe = append(m.b.Unsafe, e)
		case inner > 0 && others == 0:
			m.b.Conds = append(m.b.Conds, e)
		default:
			m.b.After = append(m.b.After, e)
		}
	}
	if len(m.b.Conds) > 12 || len(m.b.After) > 12 || len(m.b.Unsafe) > 12 {
		return api.ErrLong
	}
	return api.OK
}

func (m *model) group() api.Errno {
	if len(m.s.Group) > 8 {
		return api.ErrLong
	}
	for _, e := range m.s.Group {
		e, _, err := m.resolve(e, m.seen())
		if err != api.OK {
			return err
		}
		if reckons(e) {
			return api.ErrUnsafe
		}
		m.b.Keys = append(m.b.Keys, e)
	}
	return api.OK
}

func (m *model) items() api.Errno {
	if len(m.s.Items) == 0 || len(m.s.Items) > 8 {
		return api.ErrLong
	}
	grouped := len(m.b.Keys) > 0
	for _, i := range m.s.Items {
		if i.Agg < 0 || i.Agg > 5 || i.Agg == api.AggCount && shown(i.E) != shown(api.Expr{}) {
			return api.ErrArg
		}
		kind, err := api.Int, api.OK
		if i.Agg != api.AggCount {
			i.E, kind, err = m.resolve(i.E, m.seen())
		}
		if err != api.OK {
			return err
		}
		if i.Agg == api.AggSum && kind != api.Int && kind != api.Null {
			return api.ErrType
		}
		if i.Agg == api.AggSum || i.Agg == api.AggOf {
			kind = api.Int
		}
		grouped = grouped || i.Agg != api.AggNone
		m.b.Items, m.kinds = append(m.b.Items, i), append(m.kinds, kind)
	}
	for _, i := range m.b.Items {
		key := false
		for _, k := range m.b.Keys {
			key = key || shown(k) == shown(i.E)
		}
		if grouped && i.Agg == api.AggNone && !key {
			return api.ErrGroup
		}
	}
	m.b.Grouped, m.b.Distinct = grouped, m.s.Distinct
	return api.OK
}

// modelled is what the model tells of q; the tables and the parameters are valid.
func modelled(l []api.Table, params []api.Value, q api.Query) (api.Bound, api.Errno) {
	if len(q.Selects) == 0 {
		return api.Bound{}, api.ErrArg
	}
	var out api.Bound
	var kinds [][]int
	for _, s := range q.Selects {
		m := &model{l: l, s: s}
		for _, v := range params {
			m.params = append(m.params, v.Kind)
		}
		for _, step := range []func() api.Errno{m.tables, m.ons, m.where, m.group, m.items} {
			if err := step(); err != api.OK {
				return api.Bound{}, err
			}
		}
		out.Blocks, kinds = append(out.Blocks, m.b), append(kinds, m.kinds)
	}
	for _, a := range kinds {
		for _, b := range kinds {
			if len(a) != len(b) {
				return api.Bound{}, api.ErrUnion
			}
			for i := range a {
				if a[i] != api.Null && b[i] != api.Null && a[i] != b[i] {
					return api.Bound{}, api.ErrUnion
				}
			}
		}
	}
	if len(q.Selects) > 4 || len(q.Order) > 8 {
		return api.Bound{}, api.ErrLong
	}
	for _, k := range q.Order {
		if k.Col < 0 || k.Col >= len(kinds[0]) {
			return api.Bound{}, api.ErrOrder
		}
	}
	for i := range kinds[0] {
		kind := api.Null
		for k := len(kinds) - 1; k >= 0; k-- {
			if kinds[k][i] != api.Null {
				kind = kinds[k][i]
			}
		}
		out.Cols = append(out.Cols, kind)
	}
	out.Order = q.Order
	return out, api.OK
}

// maker makes random queries, most parts of which are right.
type maker struct {
	r      *rand.Rand
	faulty int // one part of so many is wrong
}

func pick[T any](m maker, l ...T) T { return l[m.r.Intn(len(l))] }

func (m maker) wrong() bool { return m.r.Intn(m.faulty) == 0 }

// column is a name, mostly of a column of that kind of one of those tables.
func (m maker) column(kind int, from []api.From) api.Expr {
	f := pick(m, from...)
	for _, t := range tables() {
		if t.Name == f.Table {
			for _, c := range t.Cols {
				if c.Kind == kind || m.wrong() {
					return named(pick(m, append(slices.Repeat([]string{f.Alias + "."}, 20), "")...) + c.Name)
				}
			}
		}
	}
	return m.leaf(kind, nil)
}

// leaf is an expression without operands, mostly of that kind.
func (m maker) leaf(kind int, from []api.From) api.Expr {
	if m.wrong() {
		return pick(m, named("a"), named("z"), named("x.a"), ref(m.r.Intn(4), m.r.Intn(3)), param(m.r.Intn(6)), api.Expr{}, api.Expr{Op: api.OpName, V: api.Value{S: "b"}, N: 3, L: []api.Expr{num(1)}}, wrongExprs()[m.r.Intn(len(wrongExprs()))])
	}
	if len(from) > 0 && m.r.Intn(3) > 0 {
		return m.column(kind, from)
	}
	switch kind {
	case api.Int:
		return pick(m, num(m.r.Intn(3)), num(-1), null, param(1))
	case api.Text:
		return pick(m, constant(text("x")), null, param(2))
	}
	return pick(m, yes, no, null, param(3))
}

// expr is an expression, mostly of that kind, safe or not, with names of those tables.
func (m maker) expr(kind, size int, safe bool, from []api.From) api.Expr {
	if m.wrong() {
		kind, safe = pick(m, api.Int, api.Bool, api.Text), m.r.Intn(2) == 0
	}
	if size <= 1 || kind == api.Text || kind == api.Int && safe {
		return m.leaf(kind, from)
	}
	if kind == api.Int {
		op := api.OpAdd + m.r.Intn(5)
		if op == api.OpNeg {
			return apply(op, m.expr(kind, size-1, safe, from))
		}
		return apply(op, m.expr(kind, size/2, safe, from), m.expr(kind, size/2, safe, from))
	}
	switch m.r.Intn(4) {
	case 0:
		return apply(api.OpNot, m.expr(api.Bool, size-1, safe, from))
	case 1:
		return apply(api.OpIs, m.expr(pick(m, api.Int, api.Text, api.Bool), size-1, safe, from))
	case 2:
		operands := pick(m, api.Int, api.Int, api.Text, api.Bool)
		return apply(api.OpEq+m.r.Intn(6), m.expr(operands, size/2, safe, from), m.expr(operands, size/2, safe, from))
	}
	return apply(pick(m, api.OpAnd, api.OpAnd, api.OpOr), m.expr(api.Bool, size/2, safe, from), m.expr(api.Bool, size/2, safe, from))
}

// size is mostly small, but may be too large.
func (m maker) size() int {
	if m.wrong() {
		return 60 + m.r.Intn(300)
	}
	return 1 + m.r.Intn(8)
}

func (m maker) from() []api.From {
	var out []api.From
	add := func(kind int) {
		table := pick(m, "t", "u", "v")
		f := api.From{Table: table, Alias: "n" + strconv.Itoa(len(out)), Kind: kind}
		if m.wrong() {
			f.Alias = pick(m, "n0", "n1", "t", table, "")
		}
		if m.wrong() {
			f.Table = pick(m, "w", "")
		}
		if m.wrong() {
			f.Kind = m.r.Intn(5) - 1
		}
		out = append(out, f)
	}
	for range 1 + m.r.Intn(4) {
		add(api.Inner)
	}
	for range m.r.Intn(3) {
		add(pick(m, api.Left, api.Semi))
	}
	if m.wrong() {
		add(m.r.Intn(3))
	}
	var seen []api.From
	for i := range out {
		on := append(seen[:len(seen):len(seen)], out[i])
		if out[i].Kind != api.Semi || m.wrong() {
			seen = on
		}
		if out[i].Kind != api.Inner || m.r.Intn(3) == 0 {
			out[i].On = []api.Expr{m.expr(api.Bool, m.size(), true, on)}
		}
		if m.wrong() {
			out[i].On = pick(m, nil, []api.Expr{yes, no})
		}
	}
	return out
}

// selection is a select with items of those kinds.
func (m maker) selection(kinds []int) api.Select {
	s := api.Select{Distinct: m.r.Intn(3) == 0, From: m.from()}
	var seen []api.From
	for _, f := range s.From {
		if f.Kind != api.Semi || m.wrong() {
			seen = append(seen, f)
		}
	}
	for range m.r.Intn(2) {
		s.Where = append(s.Where, all(m.expr(api.Bool, m.size(), false, seen), m.expr(api.Bool, m.size(), true, seen)))
	}
	if m.wrong() {
		s.Where = append(s.Where, yes)
	}
	grouped := m.r.Intn(2) == 0
	for _, kind := range kinds {
		i := api.Item{E: m.expr(kind, m.size(), grouped, seen)}
		switch {
		case !grouped:
		case m.r.Intn(2) == 0:
			s.Group = append(s.Group, i.E)
		case kind == api.Int:
			i = pick(m, over, api.Item{Agg: api.AggOf, E: m.expr(api.Text, 1, false, seen)}, api.Item{Agg: api.AggSum, E: i.E}, api.Item{Agg: api.AggMin, E: m.expr(kind, m.size(), false, seen)})
		default:
			i.Agg = pick(m, api.AggMin, api.AggMax)
		}
		if m.wrong() {
			i.Agg = m.r.Intn(8) - 1
		}
		s.Items = append(s.Items, i)
	}
	if m.wrong() {
		s.Group = append(s.Group, m.expr(api.Int, m.size(), m.r.Intn(2) == 0, seen))
	}
	return s
}

func (m maker) query() api.Query {
	var kinds []int
	for range 1 + min(m.r.Intn(9), m.r.Intn(8), m.r.Intn(8)) {
		kinds = append(kinds, pick(m, api.Int, api.Int, api.Bool, api.Text))
	}
	var q api.Query
	for range 1 + min(m.r.Intn(6), m.r.Intn(6), m.r.Intn(4)) {
		if m.wrong() {
			kinds = append([]int{pick(m, api.Int, api.Bool)}, kinds[m.r.Intn(2):]...)
		}
		q.Selects = append(q.Selects, m.selection(kinds))
	}
	for range m.r.Intn(4) {
		k := api.Key{Col: m.r.Intn(len(kinds)), Desc: m.r.Intn(2) == 0}
		if m.wrong() {
			k.Col = pick(m, -1, len(kinds), 100)
		}
		q.Order = append(q.Order, k)
	}
	return q
}

// TestRandom: P10.1, random queries are bound as the model binds them; every error occurs.
func TestRandom(t *testing.T) {
	t.Parallel()
	counts := map[api.Errno]int{}
	for _, faulty := range []int{1000000, 400, 100, 40, 10} {
		m := maker{rand.New(rand.NewSource(int64(faulty))), faulty}
		for range 5000 {
			q := m.query()
			want, wantErr := modelled(tables(), params(), q)
			b, e := bind.Bind(tables(), params(), q)
			if e != wantErr || shown(b) != shown(want) {
				t.Fatalf("%+v:\n%+v, error %d, want\n%+v, error %d", q, b, e, want, wantErr)
			}
			counts[e]++
		}
	}
	for _, e := range []api.Errno{api.OK, api.ErrArg, api.ErrName, api.ErrType, api.ErrLong, api.ErrUnsafe, api.ErrGroup, api.ErrUnion, api.ErrOrder} {
		if counts[e] < 25 {
			t.Error("too few of an error", counts)
		}
	}
}
