package denote_test

import (
	"math/rand"
	"reflect"
	"testing"

	"weathercock/api"
	"weathercock/denote"
)

// span is the memory of a list, with its spare capacity.
type span struct{ from, to uintptr }

// spans are the lists that v reaches, also by spare capacity.
func spans(v reflect.Value) []span {
	var out []span
	switch v.Kind() {
	case reflect.Struct:
		for i := range v.NumField() {
			out = append(out, spans(v.Field(i))...)
		}
	case reflect.Slice:
		v = v.Slice(0, v.Cap())
		if v.Len() > 0 {
			out = append(out, span{v.Pointer(), v.Pointer() + uintptr(v.Len())*v.Type().Elem().Size()})
		}
		for i := range v.Len() {
			out = append(out, spans(v.Index(i))...)
		}
	}
	return out
}

// overlap reports whether one of a shares memory with one of b, which is another one.
func overlap(a, b []span) bool {
	for i := range a {
		for k := range b {
			if &a[i] != &b[k] && a[i].from < b[k].to && b[k].from < a[i].to {
				return true
			}
		}
	}
	return false
}

// roomy is v in memory of its own, each list with room for two more elements.
func roomy(v reflect.Value) reflect.Value {
	out := reflect.New(v.Type()).Elem()
	switch v.Kind() {
	case reflect.Struct:
		for i := range v.NumField() {
			out.Field(i).Set(roomy(v.Field(i)))
		}
	case reflect.Slice:
		out.Set(reflect.MakeSlice(v.Type(), v.Len()+2, v.Len()+2))
		for i := range v.Len() {
			out.Index(i).Set(roomy(v.Index(i)))
		}
		out.Set(out.Slice(0, v.Len()))
	default:
		out.Set(v)
	}
	return out
}

// whole is v with all that is behind its lengths.
func whole(v reflect.Value) reflect.Value {
	out := reflect.New(v.Type()).Elem()
	switch v.Kind() {
	case reflect.Struct:
		for i := range v.NumField() {
			out.Field(i).Set(whole(v.Field(i)))
		}
	case reflect.Slice:
		v = v.Slice(0, v.Cap())
		out.Set(reflect.MakeSlice(v.Type(), v.Len(), v.Len()))
		for i := range v.Len() {
			out.Index(i).Set(whole(v.Index(i)))
		}
	default:
		out.Set(v)
	}
	return out
}

// arguments are all that the calls are given.
type arguments struct {
	L      []api.Table
	Params []api.Value
	Q      api.Bound
	Core   [][]int
	Rows   [][]api.Value
}

// answers are all that the calls return.
type answers struct {
	Cores, Outers [][][]int
	Rows          [][][]api.Value
	Failed        []bool
}

func answer(x arguments) answers {
	var out answers
	for _, b := range x.Q.Blocks {
		out.Cores = append(out.Cores, denote.Core(x.L, x.Params, b))
		out.Outers = append(out.Outers, denote.Outer(x.L, x.Params, b, x.Core))
		rows, failed := denote.Block(x.L, x.Params, b)
		out.Rows, out.Failed = append(out.Rows, rows), append(out.Failed, failed)
	}
	rows, failed := denote.Query(x.L, x.Params, x.Q)
	out.Rows, out.Failed = append(out.Rows, rows, denote.Sort(x.Rows, x.Q.Order)), append(out.Failed, failed)
	return out
}

// inner leaves out the lists that hold the answers of several calls: only what a call has made counts.
func (a answers) inner() []span {
	var out []span
	for _, l := range append(append([][][]int{}, a.Cores...), a.Outers...) {
		out = append(out, spans(reflect.ValueOf(l))...)
	}
	for _, l := range a.Rows {
		out = append(out, spans(reflect.ValueOf(l))...)
	}
	return out
}

// TestMemory: P3 and P4, arguments stay as they are, also behind their lengths; results are new memory, and no two of their lists share any.
func TestMemory(t *testing.T) {
	check := func(s string, l []api.Table, params []api.Value, q api.Bound) {
		x := arguments{L: l, Params: params, Q: q}
		x.Core = denote.Core(l, params, q.Blocks[0])
		x.Rows, _ = denote.Block(l, params, q.Blocks[0])
		x.Rows = append(x.Rows, x.Rows...)
		x = roomy(reflect.ValueOf(x)).Interface().(arguments)
		before := whole(reflect.ValueOf(x)).Interface()
		first, again := answer(x), answer(x)
		if !reflect.DeepEqual(whole(reflect.ValueOf(x)).Interface(), before) {
			t.Fatal(s, "an argument was changed")
		}
		if !reflect.DeepEqual(first, again) {
			t.Fatal(s, first, again)
		}
		lists := first.inner()
		if overlap(lists, lists) || overlap(lists, again.inner()) || overlap(lists, spans(reflect.ValueOf(x))) {
			t.Fatal(s, "a result shares memory")
		}
	}
	l := tables()
	for _, s := range []string{
		"SELECT a FROM t", "SELECT a, b FROM t ORDER BY 2 DESC", "SELECT t.a FROM t LEFT JOIN u ON t.a = u.a LEFT JOIN w ON w.a = u.a", "SELECT a FROM t SEMI JOIN u ON t.a = u.a",
		"SELECT DISTINCT t.a FROM t, t x WHERE t.b = 'x' AND x.b = 'x'", "SELECT a, COUNT(*), MIN(b) FROM t GROUP BY a, b", "SELECT COUNT(*) FROM e UNION ALL SELECT a FROM t UNION ALL SELECT a FROM t ORDER BY 1",
	} {
		check(s, l, nil, bound(t, l, nil, s))
	}
	random(5, 120, func(r *rand.Rand, l []api.Table, params []api.Value, s string, q api.Bound) {
		if c := denote.Core(l, params, q.Blocks[0]); len(c) < 40 {
			check(s, l, params, q)
		}
	})
}

// TestLater: P3, nothing of the arguments is kept: what a caller does with them later changes no result.
func TestLater(t *testing.T) {
	l := tables()
	q := bound(t, l, nil, "SELECT t.a, b FROM t LEFT JOIN u x ON x.a = t.a SEMI JOIN u ON u.a = t.a UNION ALL SELECT a, MIN(b) FROM t GROUP BY a ORDER BY 1 DESC")
	core := denote.Core(l, nil, q.Blocks[0])
	rows, _ := denote.Block(l, nil, q.Blocks[1])
	x := arguments{L: l, Q: q, Core: core, Rows: rows}
	first := answer(x)
	before := whole(reflect.ValueOf(first)).Interface()
	for _, t := range l {
		for _, r := range t.Rows {
			for i := range r {
				r[i] = of(77)
			}
		}
	}
	for _, b := range q.Blocks {
		b.Tables[0] = 3
		b.Items[0].E = api.Expr{Op: api.OpConst, V: of(5)}
	}
	for _, c := range core {
		c[0] = 9
	}
	for _, r := range rows {
		r[0] = of(9)
	}
	q.Order[0].Desc = false
	if !reflect.DeepEqual(whole(reflect.ValueOf(first)).Interface(), before) {
		t.Error("a result was changed")
	}
}
