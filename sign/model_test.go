package sign_test

import (
	"math"
	"math/rand"
	"slices"
	"strconv"
	"strings"
	"testing"

	"weathercock/api"
	"weathercock/expr"
	"weathercock/sign"
)

func pick[T any](r *rand.Rand, l ...T) T { return l[r.Intn(len(l))] }

// leaf is an expression without operands, of few unlike ones.
func leaf(r *rand.Rand, tables int) api.Expr {
	switch r.Intn(5) {
	case 0:
		return pick(r, null(), number(0), number(1), number(2), number(10), number(-1), number(math.MaxInt), number(math.MinInt))
	case 1:
		return pick(r, word(""), word("a"), word("b (9 I1"), truth(0), truth(1), param(1), param(2))
	}
	return ref(r.Intn(tables), r.Intn(2))
}

// some is any valid expression, with operands of any kinds.
func some(r *rand.Rand, tables, depth int) api.Expr {
	if depth == 0 || r.Intn(4) == 0 {
		return leaf(r, tables)
	}
	op := api.OpAdd + r.Intn(15)
	if op == api.OpNeg || op == api.OpNot || op == api.OpIs {
		return of(op, some(r, tables, depth-1))
	}
	return of(op, some(r, tables, depth-1), some(r, tables, depth-1))
}

// reckoned is an expression of numbers.
func reckoned(r *rand.Rand, tables, depth int) api.Expr {
	if depth == 0 || r.Intn(6) == 0 {
		return pick(r, ref(r.Intn(tables), 0), number(1), number(0), number(-1), number(math.MaxInt), number(3))
	}
	op := pick(r, api.OpAdd, api.OpAdd, api.OpMul, api.OpMul, api.OpSub, api.OpDiv, api.OpNeg)
	if op == api.OpNeg {
		return of(op, reckoned(r, tables, depth-1))
	}
	return of(op, reckoned(r, tables, depth-1), reckoned(r, tables, depth-1))
}

// asked is an expression of truths.
func asked(r *rand.Rand, tables, depth int) api.Expr {
	switch {
	case depth == 0 || r.Intn(3) == 0:
		return of(api.OpEq+r.Intn(6), reckoned(r, tables, depth), reckoned(r, tables, depth))
	case r.Intn(5) == 0:
		return of(api.OpIs, reckoned(r, tables, depth))
	case r.Intn(4) == 0:
		return of(api.OpNot, asked(r, tables, depth-1))
	}
	return of(pick(r, api.OpAnd, api.OpOr, api.OpEq, api.OpNe, api.OpGe), asked(r, tables, depth-1), asked(r, tables, depth-1))
}

func anything(r *rand.Rand, tables int) api.Expr {
	return pick(r, some, reckoned, asked)(r, tables, r.Intn(5))
}

// normalText is the Text of the normal form of e, by the chapter's words; as does number the tables.
func normalText(t *testing.T, e api.Expr, as func(int) int) string {
	if e.Op == api.OpRef {
		return "R" + strconv.Itoa(as(e.Rel)) + "." + strconv.Itoa(e.Col)
	}
	if len(e.L) == 0 {
		return text(t, e)
	}
	op, l := e.Op, []string{}
	for _, x := range e.L {
		l = append(l, normalText(t, x, as))
	}
	if op == api.OpGt || op == api.OpGe {
		op -= 2
		slices.Reverse(l)
	} else if strings.Contains(" 4 6 9 10 15 16 ", " "+strconv.Itoa(op)+" ") {
		slices.Sort(l)
	}
	return "(" + strconv.Itoa(op) + " " + strings.Join(l, " ") + ")"
}

func same(i int) int { return i }

// TestNormalModel: P12.1, normal forms of random expressions.
func TestNormalModel(t *testing.T) {
	r := rand.New(rand.NewSource(1))
	for range 20000 {
		e := anything(r, 16)
		if !expr.Right(e) {
			continue
		}
		x, err := sign.Normal(e)
		if err != api.OK || text(t, x) != normalText(t, e, same) {
			t.Fatal(text(t, e), text(t, x), err)
		}
	}
}

// TestTwice: P12.3, a normal form is its own.
func TestTwice(t *testing.T) {
	r := rand.New(rand.NewSource(2))
	for range 20000 {
		e, err := sign.Normal(anything(r, 4))
		x, again := sign.Normal(e)
		if err != again || err == api.OK && !expr.Same(e, x) {
			t.Fatal(e, x, err, again)
		}
	}
}

// faults are the errors of those operations of e whose operands have values.
func faults(t *testing.T, e api.Expr, rows [][]api.Value, params []api.Value) []api.Errno {
	var out []api.Errno
	ready := true
	for _, x := range e.L {
		out = append(out, faults(t, x, rows, params)...)
		_, err := expr.Eval(x, rows, params)
		ready = ready && err == api.OK
	}
	if _, err := expr.Eval(e, rows, params); ready && err != api.OK {
		out = append(out, err)
	}
	return out
}

// TestValue: P12.3, the value of a normal form is that of the expression; it has an error only if the expression has, and only one of its operations.
func TestValue(t *testing.T) {
	r := rand.New(rand.NewSource(3))
	values, errs, others := 0, 0, 0
	for range 40000 {
		e := anything(r, 3)
		rows := make([][]api.Value, 3)
		for i := range rows {
			for range 2 {
				rows[i] = append(rows[i], pick(r, api.Value{}, number(r.Intn(5)-1).V, number(2).V, number(math.MinInt).V, word("a").V, truth(r.Intn(2)).V))
			}
			rows[i][0] = pick(r, rows[i][0], number(r.Intn(3)).V, number(4).V, number(math.MaxInt).V)
		}
		params := []api.Value{number(r.Intn(3)).V, word("b").V}
		x, err := sign.Normal(e)
		if err != api.OK {
			continue
		}
		want, err := expr.Eval(e, rows, params)
		got, other := expr.Eval(x, rows, params)
		switch {
		case err == api.OK && (other != api.OK || got != want):
			t.Fatal(text(t, e), rows, want, got, other)
		case err == api.OK:
			values++
		case !slices.Contains(faults(t, e, rows, params), other):
			t.Fatal(text(t, e), rows, err, got, other)
		case err == other:
			errs++
		default:
			others++
		}
	}
	if values < 1000 || errs < 1000 || others < 10 {
		t.Error("too few", values, errs, others)
	}
}

// rewritten is e, written in another way that has the same normal form.
func rewritten(r *rand.Rand, e api.Expr) api.Expr {
	var l []api.Expr
	for _, x := range e.L {
		l = append(l, rewritten(r, x))
	}
	e.L = l
	if r.Intn(2) == 0 {
		return e
	}
	switch e.Op {
	case api.OpAdd, api.OpMul, api.OpEq, api.OpNe, api.OpAnd, api.OpOr:
		slices.Reverse(e.L)
	case api.OpLt, api.OpLe:
		e.Op += 2
		slices.Reverse(e.L)
	case api.OpGt, api.OpGe:
		e.Op -= 2
		slices.Reverse(e.L)
	}
	return e
}

// signature is Of by the chapter's words, of Conds that are valid.
func signature(t *testing.T, b api.Block, set int) string {
	in := func(i int) bool { return set>>i&1 == 1 }
	as := func(i int) int {
		n := 0
		for k := range i {
			if in(k) {
				n++
			}
		}
		return n
	}
	out := "S"
	for i := range b.Core {
		if in(i) {
			out += strconv.Itoa(b.Tables[i]) + " "
		}
	}
	var l []string
	for _, i := range sign.Within(b.Conds, set) {
		l = append(l, normalText(t, b.Conds[i], as)+";")
	}
	slices.Sort(l)
	return out + strings.Join(slices.Compact(l), "")
}

// tablesOf are the tables that e refers to.
func tablesOf(e api.Expr) []int {
	if e.Op == api.OpRef {
		return []int{e.Rel}
	}
	var out []int
	for _, x := range e.L {
		out = append(out, tablesOf(x)...)
	}
	return out
}

// TestOfModel: P12.2 and P12.3, signatures of random blocks, whose Conds are then mixed, repeated and written in other ways.
func TestOfModel(t *testing.T) {
	r := rand.New(rand.NewSource(4))
	for range 4000 {
		b := api.Block{Core: 1 + r.Intn(4)}
		for range b.Core + r.Intn(3) {
			b.Tables = append(b.Tables, r.Intn(13))
		}
		for range r.Intn(9) {
			if e := anything(r, b.Core+r.Intn(2)); expr.Right(e) {
				b.Conds = append(b.Conds, e, rewritten(r, e))
			}
		}
		other := b
		other.Conds = nil
		for _, e := range b.Conds {
			for range 1 + r.Intn(2) {
				other.Conds = append(other.Conds, rewritten(r, e))
			}
		}
		r.Shuffle(len(other.Conds), func(i, k int) { other.Conds[i], other.Conds[k] = other.Conds[k], other.Conds[i] })
		other.Kinds, other.Distinct, other.Unsafe = []int{api.Semi}, true, b.Conds
		for set := range 1 << b.Core {
			var within []int
			for i, e := range b.Conds {
				l := tablesOf(e)
				if len(l) > 0 && !slices.ContainsFunc(l, func(x int) bool { return set>>x&1 == 0 }) {
					within = append(within, i)
				}
			}
			if got := sign.Within(b.Conds, set); !slices.Equal(got, within) {
				t.Fatal(b.Conds, set, got, within)
			}
			if set == 0 {
				continue
			}
			s, err := sign.Of(b, set)
			if want := signature(t, b, set); err != api.OK || s != want {
				t.Fatal(b, set, s, err, want)
			}
			if x, err := sign.Of(other, set); err != api.OK || x != s {
				t.Fatal(b, other, set, s, x, err)
			}
		}
	}
}

// TestCondsModel: P12.1 and P12.3, Conds of random expressions.
func TestCondsModel(t *testing.T) {
	r := rand.New(rand.NewSource(5))
	for range 4000 {
		var l []api.Expr
		var want, got []string
		for range r.Intn(8) {
			if e := anything(r, 16); expr.Right(e) {
				l = append(l, e, rewritten(r, e))
				want = append(want, normalText(t, e, same))
			}
		}
		slices.Sort(want)
		out, err := sign.Conds(l)
		for _, e := range out {
			got = append(got, text(t, e))
		}
		if err != api.OK || !slices.Equal(got, slices.Compact(want)) {
			t.Fatal(l, got, want, err)
		}
	}
}
