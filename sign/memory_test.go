package sign_test

import (
	"math"
	"math/rand"
	"reflect"
	"testing"

	"weathercock/api"
	"weathercock/expr"
	"weathercock/sign"
)

// span is the memory of a list, with its spare capacity.
type span struct{ from, to uintptr }

// spans are the lists that v reaches, also by spare capacity.
func spans(v reflect.Value) []span {
	var out []span
	switch v.Kind() {
	case reflect.Struct:
		for i := range v.NumField() {
			out = append(out, spans(v.Field(i))...)
		}
	case reflect.Slice:
		v = v.Slice(0, v.Cap())
		if v.Len() > 0 {
			out = append(out, span{v.Pointer(), v.Pointer() + uintptr(v.Len())*v.Type().Elem().Size()})
		}
		for i := range v.Len() {
			out = append(out, spans(v.Index(i))...)
		}
	}
	return out
}

// overlap reports whether one of a shares memory with one of b, which is another one.
func overlap(a, b []span) bool {
	for i := range a {
		for k := range b {
			if &a[i] != &b[k] && a[i].from < b[k].to && b[k].from < a[i].to {
				return true
			}
		}
	}
	return false
}

// roomy is v in memory of its own, each list with room for two more elements.
func roomy(v reflect.Value) reflect.Value {
	out := reflect.New(v.Type()).Elem()
	switch v.Kind() {
	case reflect.Struct:
		for i := range v.NumField() {
			out.Field(i).Set(roomy(v.Field(i)))
		}
	case reflect.Slice:
		out.Set(reflect.MakeSlice(v.Type(), v.Len()+2, v.Len()+2))
		for i := range v.Len() {
			out.Index(i).Set(roomy(v.Index(i)))
		}
		out.Set(out.Slice(0, v.Len()))
	default:
		out.Set(v)
	}
	return out
}

// whole is v with all that is behind its lengths.
func whole(v reflect.Value) reflect.Value {
	out := reflect.New(v.Type()).Elem()
	switch v.Kind() {
	case reflect.Struct:
		for i := range v.NumField() {
			out.Field(i).Set(whole(v.Field(i)))
		}
	case reflect.Slice:
		v = v.Slice(0, v.Cap())
		out.Set(reflect.MakeSlice(v.Type(), v.Len(), v.Len()))
		for i := range v.Len() {
			out.Index(i).Set(whole(v.Index(i)))
		}
	default:
		out.Set(v)
	}
	return out
}

type answers struct {
	Normals, Conds []api.Expr
	Within         []int
	Signs          []string
}

func answer(b api.Block) answers {
	var out answers
	for _, e := range b.Conds {
		x, _ := sign.Normal(e)
		out.Normals = append(out.Normals, x)
	}
	out.Conds, _ = sign.Conds(b.Conds)
	out.Within = sign.Within(b.Conds, 5)
	for set := range 1 << b.Core {
		s, _ := sign.Of(b, set)
		out.Signs = append(out.Signs, s)
	}
	return out
}

// TestMemory: P3 and P4, arguments stay as they are, also behind their lengths; results are new memory, and no two of their lists share any.
func TestMemory(t *testing.T) {
	r := rand.New(rand.NewSource(6))
	for range 600 {
		b := api.Block{Tables: []int{1, 2, 3}, Core: 3}
		for range r.Intn(6) {
			e := anything(r, 3)
			b.Conds = append(b.Conds, e, rewritten(r, e))
		}
		b = roomy(reflect.ValueOf(b)).Interface().(api.Block)
		before := whole(reflect.ValueOf(b)).Interface()
		first, again := answer(b), answer(b)
		if !reflect.DeepEqual(whole(reflect.ValueOf(b)).Interface(), before) {
			t.Fatal(b, "an argument was changed")
		}
		if !reflect.DeepEqual(first, again) {
			t.Fatal(b, first, again)
		}
		lists := spans(reflect.ValueOf(first))
		if overlap(lists, lists) || overlap(lists, spans(reflect.ValueOf(again))) || overlap(lists, spans(reflect.ValueOf(b))) {
			t.Fatal(b, "a result shares memory")
		}
		kept := whole(reflect.ValueOf(first)).Interface()
		for i := range b.Conds {
			for k := range b.Conds[i].L {
				b.Conds[i].L[k] = number(77)
			}
			b.Conds[i] = number(78)
		}
		b.Tables[0] = 79
		if !reflect.DeepEqual(whole(reflect.ValueOf(first)).Interface(), kept) {
			t.Fatal(b, "a result was changed")
		}
	}
}

// TestShared: P3, an operand that stands in two places of an argument is in a result twice.
func TestShared(t *testing.T) {
	x := of(api.OpGt, ref(0, 0), ref(1, 0))
	e := of(api.OpAnd, x, of(api.OpOr, x, x))
	l, err := sign.Conds([]api.Expr{e, x, of(api.OpNot, x), e})
	n, nerr := sign.Normal(e)
	lists := append(spans(reflect.ValueOf(l)), spans(reflect.ValueOf(n))...)
	if err != api.OK || nerr != api.OK || len(l) != 3 || overlap(lists, lists) {
		t.Error(l, n, err, nerr)
	}
}

// TestEmptyLists: P3, the operands of an expression that has none are no memory of the argument.
func TestEmptyLists(t *testing.T) {
	room := make([]api.Expr, 0, 4)
	e := api.Expr{Op: api.OpRef, L: room}
	n, err := sign.Normal(e)
	l, lerr := sign.Conds([]api.Expr{e, of(api.OpIs, e)})
	if err != api.OK || lerr != api.OK || overlap(append(spans(reflect.ValueOf(n)), spans(reflect.ValueOf(l))...), spans(reflect.ValueOf(e))) {
		t.Error(n, l, err, lerr)
	}
}

func anyNumber(r *rand.Rand) int {
	return pick(r, 0, 0, 0, 0, 1, 1, 2, 3, 4, 5, 15, 16, 20, -1, -2, math.MaxInt, math.MinInt, 1<<32, 1<<62)
}

// anyExpr is an expression that may be wrong in any way.
func anyExpr(r *rand.Rand, bad []api.Expr, depth int) api.Expr {
	switch {
	case depth > 0 && r.Intn(3) > 0:
	case r.Intn(2) == 0:
		return pick(r, bad...)
	default:
		return leaf(r, 16)
	}
	e := api.Expr{Op: r.Intn(24) - 2}
	if r.Intn(20) == 0 {
		e.Rel, e.Col, e.N, e.V.N = anyNumber(r), anyNumber(r), anyNumber(r), anyNumber(r)
	}
	for range 1 + r.Intn(2) {
		e.L = append(e.L, anyExpr(r, bad, depth-1))
	}
	return e
}

// TestAny: P1 and P2, every call ends and none panics, whatever it is given; what it answers is an error exactly if something is not valid.
func TestAny(t *testing.T) {
	r, bad := rand.New(rand.NewSource(7)), wrong()
	for range 10000 {
		b := api.Block{Core: anyNumber(r)}
		for range r.Intn(7) {
			b.Tables = append(b.Tables, anyNumber(r))
		}
		valid := true
		for range r.Intn(4) {
			e := anyExpr(r, bad, 3)
			b.Conds = append(b.Conds, e)
			valid = valid && expr.Right(e)
			if x, err := sign.Normal(e); (err == api.OK) != expr.Right(e) || (err == api.OK) != expr.Right(x) {
				t.Fatal(e, x, err)
			}
		}
		if l, err := sign.Conds(b.Conds); (err == api.OK) != valid || err != api.OK && len(l) > 0 {
			t.Fatal(b.Conds, l, err)
		}
		set := anyNumber(r)
		sign.Within(b.Conds, set)
		good := valid && b.Core >= 1 && b.Core <= 4 && len(b.Tables) >= b.Core && set >= 1 && set < 1<<b.Core
		if s, err := sign.Of(b, set); (err == api.OK) != good || (s != "") != good {
			t.Fatal(b, set, s, err)
		}
	}
}
