package denote_test

import (
	"fmt"
	"math"
	"math/big"
	"math/rand"
	"slices"
	"strings"
	"testing"

	"weathercock/api"
	"weathercock/denote"
	"weathercock/expr"
	"weathercock/value"
)

// model computes what a block means by lists that are written out whole.
type model struct {
	l      []api.Table
	params []api.Value
	b      api.Block
}

func (m model) eval(e api.Expr, c []int) (api.Value, bool) {
	var rows [][]api.Value
	for i, at := range m.b.Tables {
		if i < len(c) && c[i] >= 0 {
			rows = append(rows, m.l[at].Rows[c[i]])
		} else {
			rows = append(rows, make([]api.Value, api.MaxCols))
		}
	}
	v, err := expr.Eval(e, rows, m.params)
	return v, err == api.OK
}

func (m model) allTrue(l []api.Expr, c []int) bool {
	for _, e := range l {
		if v, _ := m.eval(e, c); v != of(true) {
			return false
		}
	}
	return true
}

func (m model) core() [][]int {
	all := [][]int{{}}
	for i := range m.b.Core {
		var longer [][]int
		for _, c := range all {
			for n := range m.l[m.b.Tables[i]].Rows {
				longer = append(longer, append(slices.Clone(c), n))
			}
		}
		all = longer
	}
	return slices.DeleteFunc(all, func(c []int) bool { return !m.allTrue(m.b.Conds, c) })
}

func (m model) outer(all [][]int) [][]int {
	for i, kind := range m.b.Kinds {
		var longer [][]int
		for _, c := range all {
			many := 0
			for n := range m.l[m.b.Tables[m.b.Core+i]].Rows {
				if d := append(slices.Clone(c), n); m.allTrue(m.b.On[i:i+1], d) {
					many++
					if kind == api.Left {
						longer = append(longer, d)
					}
				}
			}
			if (kind == api.Left) == (many == 0) {
				longer = append(longer, append(slices.Clone(c), -1))
			}
		}
		all = longer
	}
	return all
}

// fate is what becomes of a combination by Unsafe: it stays, is removed, or fails.
func (m model) fate(c []int) (stays, fails bool) {
	for _, e := range m.b.Unsafe {
		v, ok := m.eval(e, c)
		if !ok {
			return false, true
		}
		if v != of(true) {
			return false, false
		}
	}
	for _, e := range m.b.Keys {
		if _, ok := m.eval(e, c); !ok {
			return false, true
		}
	}
	for _, i := range m.b.Items {
		if i.Agg == api.AggCount {
			continue
		}
		if _, ok := m.eval(i.E, c); !ok {
			return false, true
		}
	}
	return true, false
}

func (m model) values(l []api.Expr, c []int) []api.Value {
	var out []api.Value
	for _, e := range l {
		v, _ := m.eval(e, c)
		out = append(out, v)
	}
	return out
}

// aggregate is what an item yields for a group of combinations.
func (m model) aggregate(i api.Item, group [][]int) (api.Value, bool) {
	if i.Agg == api.AggCount {
		return of(len(group)), true
	}
	var l []api.Value
	sum := new(big.Int)
	for _, c := range group {
		if v, _ := m.eval(i.E, c); v.Kind != api.Null || i.Agg == api.AggNone {
			l = append(l, v)
			sum.Add(sum, big.NewInt(int64(v.N)))
		}
	}
	switch {
	case i.Agg == api.AggOf:
		return of(len(l)), true
	case len(l) == 0:
		return api.Value{}, true
	case i.Agg == api.AggSum:
		return of(int(sum.Int64())), sum.IsInt64()
	case i.Agg == api.AggMin:
		return slices.MinFunc(l, value.Compare), true
	case i.Agg == api.AggMax:
		return slices.MaxFunc(l, value.Compare), true
	}
	return l[0], true
}

// groups divides combinations by the values of Keys, in ascending order.
func (m model) groups(all [][]int) [][][]int {
	if len(m.b.Keys) == 0 {
		return [][][]int{all}
	}
	var out [][][]int
	for _, c := range all {
		keys := m.values(m.b.Keys, c)
		at, found := slices.BinarySearchFunc(out, keys, func(g [][]int, keys []api.Value) int {
			return slices.CompareFunc(m.values(m.b.Keys, g[0]), keys, value.Compare)
		})
		if !found {
			out = slices.Insert(out, at, nil)
		}
		out[at] = append(out[at], c)
	}
	return out
}

func (m model) block() (rows [][]api.Value, failed bool) {
	var used [][]int
	for _, c := range m.outer(m.core()) {
		if !m.allTrue(m.b.After, c) {
			continue
		}
		stays, fails := m.fate(c)
		failed = failed || fails
		if stays {
			used = append(used, c)
		}
	}
	if m.b.Grouped {
		for _, g := range m.groups(used) {
			var r []api.Value
			fails := false
			for _, i := range m.b.Items {
				v, ok := m.aggregate(i, g)
				r, fails = append(r, v), fails || !ok
			}
			failed = failed || fails
			if !fails {
				rows = append(rows, r)
			}
		}
	} else {
		for _, c := range used {
			var r []api.Value
			for _, i := range m.b.Items {
				v, _ := m.eval(i.E, c)
				r = append(r, v)
			}
			rows = append(rows, r)
		}
	}
	if m.b.Distinct {
		var kept [][]api.Value
		for _, r := range rows {
			if !slices.ContainsFunc(kept, func(x []api.Value) bool { return slices.Equal(x, r) }) {
				kept = append(kept, r)
			}
		}
		rows = kept
	}
	return rows, failed
}

// writer writes random queries over the tables of randomTables.
type writer struct {
	r    *rand.Rand
	cols [3][]string // the visible columns, by kind: Int, Bool, Text
}

func pick[T any](r *rand.Rand, l ...T) T { return l[r.Intn(len(l))] }

func randomTables(r *rand.Rand) []api.Table {
	var l []api.Table
	for _, name := range []string{"t", "u", "v"} {
		x := table(name, "a:i b:t c:b d:i")
		for range pick(r, 0, 1, 2, 3, 3, 4) {
			x.Rows = append(x.Rows, line(pick[any](r, nil, 0, 1, 1, 1, 2), pick[any](r, nil, "", "x", "x", "xy"), pick[any](r, nil, true, false), pick[any](r, nil, 1, -1, 2, math.MaxInt, math.MinInt)))
		}
		l = append(l, x)
	}
	return l
}

func (w *writer) show(alias string) {
	w.cols[0] = append(w.cols[0], alias+".a", alias+".d")
	w.cols[1] = append(w.cols[1], alias+".c")
	w.cols[2] = append(w.cols[2], alias+".b")
}

func (w *writer) number(depth int, reckons bool) string {
	if !reckons || depth == 0 || w.r.Intn(3) == 0 {
		if w.r.Intn(4) > 0 {
			return pick(w.r, w.cols[0]...)
		}
		return pick(w.r, "0", "1", "2", "3", "$1", "NULL", great)
	}
	if w.r.Intn(6) == 0 {
		return "-(" + w.number(depth-1, true) + ")"
	}
	return "(" + w.number(depth-1, true) + pick(w.r, " + ", " - ", " * ", " / ", " / ") + w.number(depth-1, true) + ")"
}

func (w *writer) text() string {
	if w.r.Intn(3) > 0 {
		return pick(w.r, w.cols[2]...)
	}
	return pick(w.r, "'x'", "''", "$2", "NULL")
}

func (w *writer) truth(depth int, reckons bool) string {
	n := w.r.Intn(9)
	if depth == 0 {
		n = w.r.Intn(6)
	}
	switch n {
	case 0:
		return pick(w.r, w.cols[1]...)
	case 1:
		return pick(w.r, "TRUE", "TRUE", "TRUE", "FALSE", "NULL")
	case 2:
		return w.text() + pick(w.r, " = ", " <> ", " < ", " >= ") + w.text()
	case 3:
		return "(" + w.number(1, reckons) + ") IS " + pick(w.r, "", "NOT ") + "NULL"
	case 4, 5:
		return w.number(2, reckons) + pick(w.r, " = ", " = ", " <> ", " < ", " <= ", " > ", " >= ") + w.number(2, reckons)
	case 6:
		return "NOT (" + w.truth(depth-1, reckons) + ")"
	}
	return "(" + w.truth(depth-1, reckons) + pick(w.r, " AND ", " OR ", " OR ") + w.truth(depth-1, reckons) + ")"
}

func (w *writer) from() string {
	var s string
	n := pick(w.r, 1, 1, 2, 2, 2, 3, 4)
	for i := range n {
		alias := string(rune('p' + i))
		w.show(alias)
		name := pick(w.r, "t", "u", "v") + " " + alias
		switch {
		case i == 0:
			s = name
		case w.r.Intn(2) == 0:
			s += ", " + name
		default:
			s += " JOIN " + name + " ON " + w.truth(1, false)
		}
	}
	for i := range w.r.Intn(3) {
		alias, kind := string(rune('x'+i)), pick(w.r, "LEFT", "SEMI")
		before := w.cols
		w.show(alias)
		on := w.truth(2, false)
		if w.r.Intn(2) == 0 {
			on = "p.a = " + alias + ".a"
		}
		s += " " + kind + " JOIN " + pick(w.r, "t", "u", "v") + " " + alias + " ON " + on
		if kind == "SEMI" {
			w.cols = before
		}
	}
	return s
}

// conditions are joined by AND, so that each of them is one of its own.
func (w *writer) conditions() string {
	var l []string
	for range pick(w.r, 0, 0, 1, 1, 2, 4) {
		l = append(l, w.truth(1, w.r.Intn(2) == 0))
	}
	if len(l) == 0 {
		return ""
	}
	return " WHERE " + strings.Join(l, " AND ")
}

// selection has three items, an Int, a Text and an Int, so that any two fit together.
func (w *writer) selection() string {
	*w = writer{r: w.r}
	from := w.from()
	where := w.conditions()
	distinct := pick(w.r, "", "", "DISTINCT ")
	number := w.number(2, true)
	if w.r.Intn(2) == 0 {
		return "SELECT " + distinct + number + ", " + w.text() + ", " + w.number(1, false) + " FROM " + from + where
	}
	keys := []string{w.number(0, false), w.text(), w.number(0, false), w.truth(1, false)}
	reckoned := func() string {
		return pick(w.r, "COUNT(*)", "COUNT("+w.truth(1, true)+")", "SUM("+number+")", "SUM("+w.number(1, false)+")", "MIN("+w.number(1, true)+")", "MAX("+w.number(1, false)+")")
	}
	text := pick(w.r, "MIN(", "MAX(") + w.text() + ")"
	if w.r.Intn(3) == 0 {
		return "SELECT " + distinct + reckoned() + ", " + text + ", " + reckoned() + " FROM " + from + where
	}
	first := pick(w.r, keys[0], reckoned())
	return "SELECT " + distinct + first + ", " + pick(w.r, keys[1], text) + ", " + reckoned() + " FROM " + from + where + " GROUP BY " + strings.Join(keys[:1+w.r.Intn(4)], ", ")
}

func (w *writer) query() string {
	s := w.selection()
	for w.r.Intn(3) == 0 && strings.Count(s, "UNION") < 3 {
		s += " UNION ALL " + w.selection()
	}
	return s + pick(w.r, "", " ORDER BY 1", " ORDER BY 2 DESC", " ORDER BY 3, 1 DESC", " ORDER BY 2, 3 DESC")
}

// seen counts what random queries have met.
type seen struct{ bound, rows, failed, grouped, distinct, unsafe, after int }

func (s *seen) note(b api.Block, rows [][]api.Value, failed bool) {
	s.bound++
	for _, x := range []struct {
		n  *int
		is bool
	}{{&s.rows, len(rows) > 0}, {&s.failed, failed}, {&s.grouped, b.Grouped}, {&s.distinct, b.Distinct}, {&s.unsafe, len(b.Unsafe) > 0}, {&s.after, len(b.After) > 0}} {
		if x.is {
			*x.n++
		}
	}
}

// random calls f with random queries that can be bound.
func random(seed int64, many int, f func(r *rand.Rand, l []api.Table, params []api.Value, s string, q api.Bound)) {
	r := rand.New(rand.NewSource(seed))
	w := &writer{r: r}
	for range many {
		l := randomTables(r)
		params := []api.Value{of(pick[any](r, nil, 0, 1, 2)), of(pick[any](r, nil, "x"))}
		s := w.query()
		if q, ok := tryBind(l, params, s); ok {
			f(r, l, params, s, q)
		}
	}
}

// TestModel: P11.1 to P11.3, random queries against the model.
func TestModel(t *testing.T) {
	var met seen
	random(2, 12000, func(r *rand.Rand, l []api.Table, params []api.Value, s string, q api.Bound) {
		var all [][]api.Value
		anyFailed := false
		for i, b := range q.Blocks {
			m := model{l, params, b}
			core := denote.Core(l, params, b)
			if pairs(core) != pairs(m.core()) {
				t.Fatalf("%s, block %d: Core %s, want %s", s, i, pairs(core), pairs(m.core()))
			}
			r.Shuffle(len(core), func(i, k int) { core[i], core[k] = core[k], core[i] })
			if got := denote.Outer(l, params, b, core); pairs(got) != pairs(m.outer(core)) {
				t.Fatalf("%s, block %d: Outer %s, want %s", s, i, pairs(got), pairs(m.outer(core)))
			}
			rows, failed := denote.Block(l, params, b)
			want, fails := m.block()
			if shown(rows) != shown(want) || failed != fails {
				t.Fatalf("%s, block %d over %s: %s, %v, want %s, %v", s, i, shownTables(l), shown(rows), failed, shown(want), fails)
			}
			met.note(b, rows, failed)
			all, anyFailed = append(all, want...), anyFailed || fails
		}
		rows, failed := denote.Query(l, params, q)
		if want := sortedPlainly(all, q.Order); shown(rows) != shown(want) || failed != anyFailed {
			t.Fatalf("%s: %s, %v, want %s, %v", s, shown(rows), failed, shown(want), anyFailed)
		}
	})
	if min(met.rows, met.failed, met.grouped, met.distinct, met.unsafe, met.after) < 1000 || met.bound-max(met.rows, met.failed) < 500 {
		t.Errorf("too few of something: %+v", met)
	}
}

func shownTables(l []api.Table) string {
	var out []string
	for _, x := range l {
		out = append(out, x.Name+shown(x.Rows))
	}
	return strings.Join(out, " ")
}

// TestOrders: P11.4, neither the order of the rows in a table nor that of Conds or After matters.
func TestOrders(t *testing.T) {
	moved := 0
	random(3, 2500, func(r *rand.Rand, l []api.Table, params []api.Value, s string, q api.Bound) {
		rows, failed := denote.Query(l, params, q)
		for range 3 {
			before := fmt.Sprint(l, q)
			for _, x := range l {
				r.Shuffle(len(x.Rows), func(i, k int) { x.Rows[i], x.Rows[k] = x.Rows[k], x.Rows[i] })
			}
			for _, b := range q.Blocks {
				r.Shuffle(len(b.Conds), func(i, k int) { b.Conds[i], b.Conds[k] = b.Conds[k], b.Conds[i] })
				r.Shuffle(len(b.After), func(i, k int) { b.After[i], b.After[k] = b.After[k], b.After[i] })
			}
			if fmt.Sprint(l, q) != before {
				moved++
			}
			again, fails := denote.Query(l, params, q)
			if shown(again) != shown(rows) || fails != failed {
				t.Fatalf("%s over %s: %s, %v, and then %s, %v", s, shownTables(l), shown(rows), failed, shown(again), fails)
			}
		}
	})
	if moved < 2000 {
		t.Error(moved)
	}
}

// TestParts: P11.1, what Outer makes of combinations it makes of each one alone.
func TestParts(t *testing.T) {
	random(4, 1500, func(r *rand.Rand, l []api.Table, params []api.Value, s string, q api.Bound) {
		b := q.Blocks[0]
		core := denote.Core(l, params, b)
		var parts [][]int
		for i := range core {
			parts = append(parts, denote.Outer(l, params, b, core[i:i+1])...)
		}
		if all := denote.Outer(l, params, b, core); pairs(all) != pairs(parts) {
			t.Fatal(s, pairs(all), pairs(parts))
		}
	})
}
