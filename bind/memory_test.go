package bind_test

import (
	"reflect"
	"testing"

	"weathercock/api"
	"weathercock/bind"
)

// span is the memory of a list, with its spare capacity.
type span struct{ from, to uintptr }

// spans are the lists that v reaches, also by spare capacity.
func spans(v reflect.Value) []span {
	var out []span
	switch v.Kind() {
	case reflect.Struct:
		for i := range v.NumField() {
			out = append(out, spans(v.Field(i))...)
		}
	case reflect.Slice:
		v = v.Slice(0, v.Cap())
		if v.Len() > 0 {
			out = append(out, span{v.Pointer(), v.Pointer() + uintptr(v.Len())*v.Type().Elem().Size()})
		}
		for i := range v.Len() {
			out = append(out, spans(v.Index(i))...)
		}
	}
	return out
}

// overlap reports whether one of a shares memory with one of b, which is another one.
func overlap(a, b []span) bool {
	for i := range a {
		for k := range b {
			if &a[i] != &b[k] && a[i].from < b[k].to && b[k].from < a[i].to {
				return true
			}
		}
	}
	return false
}

// roomy is v in memory of its own, each list with room for two more elements.
func roomy(v reflect.Value) reflect.Value {
	out := reflect.New(v.Type()).Elem()
	switch v.Kind() {
	case reflect.Struct:
		for i := range v.NumField() {
			out.Field(i).Set(roomy(v.Field(i)))
		}
	case reflect.Slice:
		out.Set(reflect.MakeSlice(v.Type(), v.Len()+2, v.Len()+2))
		for i := range v.Len() {
			out.Index(i).Set(roomy(v.Index(i)))
		}
		out.Set(out.Slice(0, v.Len()))
	default:
		out.Set(v)
	}
	return out
}

// whole is v with all that is behind its lengths.
func whole(v reflect.Value) reflect.Value {
	out := reflect.New(v.Type()).Elem()
	switch v.Kind() {
	case reflect.Struct:
		for i := range v.NumField() {
			out.Field(i).Set(whole(v.Field(i)))
		}
	case reflect.Slice:
		v = v.Slice(0, v.Cap())
		out.Set(reflect.MakeSlice(v.Type(), v.Len(), v.Len()))
		for i := range v.Len() {
			out.Index(i).Set(whole(v.Index(i)))
		}
	default:
		out.Set(v)
	}
	return out
}

// arguments are all that Bind is given.
type arguments struct {
	L      []api.Table
	Params []api.Value
	Q      api.Query
}

// TestMemory: P3 and P4, arguments stay as they are, also behind their lengths; a result is new memory, and no two of its lists share any.
func TestMemory(t *testing.T) {
	var queries []api.Query
	for _, s := range []string{
		"SELECT a FROM t", "SELECT COUNT(*), t.a FROM t GROUP BY t.a, b, d ORDER BY 1, 2 DESC, 1", "SELECT NULL, 1 FROM t UNION ALL SELECT b, a FROM t UNION ALL SELECT e, f FROM v ORDER BY 2",
		"SELECT x.a = 1, x.a = 1, SUM(x.a) FROM t x JOIN u y ON x.a = y.a AND c AND x.a = y.a JOIN u z ON z.a IS NULL LEFT JOIN v w ON w.f = x.a AND TRUE SEMI JOIN v ON v.f = w.f AND x.d " +
			"WHERE x.a + 1 = 2 AND -x.a = 3 AND w.f = 1 AND w.e IS NULL AND (x.d OR y.c) AND NULL AND (x.d OR y.c) GROUP BY x.a = 1, x.a IS NULL",
	} {
		queries = append(queries, read(t, s))
	}
	same := apply(api.OpEq, named("x.a"), num(1))
	shared := good()
	shared.Selects[0].Where = []api.Expr{apply(api.OpAnd, apply(api.OpAnd, same, same), same)}
	shared.Selects[0].From[0].On = []api.Expr{same}
	shared.Selects[0].From[3].On = []api.Expr{same}
	shared.Selects[0].Group = []api.Expr{same, same}
	shared.Selects[0].Items = []api.Item{{E: same}, {Agg: api.AggOf, E: same}}
	shared.Selects[1] = shared.Selects[0]
	queries = append(queries, shared)
	for _, f := range faults() {
		q := good()
		f.change(&q)
		queries = append(queries, q)
	}
	for i, q := range queries {
		x := roomy(reflect.ValueOf(arguments{tables(), params(), q})).Interface().(arguments)
		before := whole(reflect.ValueOf(x)).Interface()
		b, e := bind.Bind(x.L, x.Params, x.Q)
		again, err := bind.Bind(x.L, x.Params, x.Q)
		if !reflect.DeepEqual(whole(reflect.ValueOf(x)).Interface(), before) {
			t.Fatal(i, "an argument was changed")
		}
		if e != err || shown(b) != shown(again) {
			t.Fatal(i, b, e, again, err)
		}
		lists, others := spans(reflect.ValueOf(b)), append(spans(reflect.ValueOf(x)), spans(reflect.ValueOf(again))...)
		if overlap(lists, lists) || overlap(lists, others) {
			t.Fatal(i, "a result shares memory")
		}
	}
}

// TestColsMemory: P3, for Cols.
func TestColsMemory(t *testing.T) {
	type given struct {
		L []api.Table
		B api.Block
	}
	for _, tabs := range [][]int{{0}, {2, 1, 0}, {1, 1, 1}, {1, 3}} {
		x := roomy(reflect.ValueOf(given{tables(), api.Block{Tables: tabs, Kinds: []int{1}}})).Interface().(given)
		before := whole(reflect.ValueOf(x)).Interface()
		c := bind.Cols(x.L, x.B)
		again := bind.Cols(x.L, x.B)
		if !reflect.DeepEqual(whole(reflect.ValueOf(x)).Interface(), before) || shown(c) != shown(again) {
			t.Fatal(tabs, c, again)
		}
		lists, others := spans(reflect.ValueOf(c)), append(spans(reflect.ValueOf(x)), spans(reflect.ValueOf(again))...)
		if overlap(lists, lists) || overlap(lists, others) {
			t.Fatal(tabs, "a result shares memory")
		}
	}
}

// TestLater: P3, nothing of the arguments is kept: what a caller does with them later changes no result.
func TestLater(t *testing.T) {
	l, p, q := tables(), params(), good()
	b, e := bind.Bind(l, p, q)
	before := shown(b)
	for i := range q.Selects {
		for k := range q.Selects[i].From {
			q.Selects[i].From[k].On[0] = api.Expr{Op: -1}
		}
		q.Selects[i].Where[0].L[0] = api.Expr{Op: -1}
		q.Selects[i].Group[0] = api.Expr{Op: -1}
		q.Selects[i].Items[0] = api.Item{Agg: -1}
	}
	q.Order[0].Col, l[0].Name, l[0].Cols[0].Kind, p[0].Kind = 9, "", 9, 9
	if e != api.OK || shown(b) != before {
		t.Error(b, e)
	}
}
