package index_test

import (
	"math"
	"math/rand"
	"reflect"
	"slices"
	"strconv"
	"strings"
	"testing"

	"weathercock/api"
	"weathercock/index"
)

func number(n int) api.Value { return api.Value{Kind: api.Int, N: n} }

func truth(n int) api.Value { return api.Value{Kind: api.Bool, N: n} }

func text(s string) api.Value { return api.Value{Kind: api.Text, S: s} }

// edges is values of all Kinds, and some that are not valid, in ascending order.
func edges() []api.Value {
	return []api.Value{
		{Kind: math.MinInt}, {Kind: -1}, {Kind: -1, N: 2, S: "x"},
		{},
		number(math.MinInt), number(-1), number(0), {Kind: api.Int, S: "a"}, number(1), number(2), number(math.MaxInt),
		truth(0), truth(1), truth(2),
		text(""), text("\x00"), text("a"), text("a\x00"), text("ab"), text("b"), text("\xff"), text(strings.Repeat("z", 41)), {Kind: api.Text, N: 1},
		{Kind: 4}, {Kind: math.MaxInt},
	}
}

// before is the chapter's order written out: by Kind, by N, by S.
func before(a, b api.Value) bool {
	if a.Kind != b.Kind {
		return a.Kind < b.Kind
	}
	if a.N != b.N {
		return a.N < b.N
	}
	return a.S < b.S
}

// column is rows of one value.
func column(l ...api.Value) [][]api.Value {
	out := [][]api.Value{}
	for _, v := range l {
		out = append(out, []api.Value{v})
	}
	return out
}

func built(t *testing.T, rows [][]api.Value, col int) *index.Index {
	t.Helper()
	x, e := index.Build(rows, col)
	if e != api.OK || x == nil {
		t.Fatal("Build:", e)
	}
	return x
}

// slowEq goes through the whole column.
func slowEq(l []api.Value, v api.Value) []int {
	var out []int
	for n, w := range l {
		if w == v && v.Kind != api.Null {
			out = append(out, n)
		}
	}
	return out
}

// slowAll takes the least value that is left, the one with the lowest number first.
func slowAll(l []api.Value) []int {
	var out []int
	taken := make([]bool, len(l))
	for range l {
		best := -1
		for n, v := range l {
			if !taken[n] && (best < 0 || before(v, l[best])) {
				best = n
			}
		}
		taken[best] = true
		out = append(out, best)
	}
	return out
}

// slowRange drops from slowAll what is Null or outside.
func slowRange(l []api.Value, lo, hi []api.Value) []int {
	var out []int
	for _, n := range slowAll(l) {
		switch {
		case l[n].Kind == api.Null:
		case len(lo) > 0 && before(l[n], lo[0]):
		case len(hi) > 0 && before(hi[0], l[n]):
		default:
			out = append(out, n)
		}
	}
	return out
}

// slowDistinct counts the values that are not Null and have no equal ahead of them.
func slowDistinct(l []api.Value) int {
	many := 0
	for n, v := range l {
		if v.Kind != api.Null && !slices.Contains(l[:n], v) {
			many++
		}
	}
	return many
}

// check holds all calls of an index of the column l against the slow ones.
func check(t *testing.T, x *index.Index, l, asked []api.Value) {
	t.Helper()
	if got, want := x.All(), slowAll(l); !slices.Equal(got, want) {
		t.Error("All of", l, "is", got, "and not", want)
	}
	if got, want := x.Distinct(), slowDistinct(l); got != want {
		t.Error("Distinct of", l, "is", got, "and not", want)
	}
	bounds := [][]api.Value{nil}
	for _, v := range asked {
		bounds = append(bounds, []api.Value{v})
		want := slowEq(l, v)
		if got := x.Eq(v); !slices.Equal(got, want) {
			t.Error("Eq of", v, "in", l, "is", got, "and not", want)
		}
		if got := x.Hash(v); !slices.Equal(got, want) {
			t.Error("Hash of", v, "in", l, "is", got, "and not", want)
		}
	}
	for _, lo := range bounds {
		for _, hi := range bounds {
			if got, want := x.Range(lo, hi), slowRange(l, lo, hi); !slices.Equal(got, want) {
				t.Error("Range from", lo, "to", hi, "in", l, "is", got, "and not", want)
			}
		}
	}
}

// TestExample is the chapter's example (P6.1, P6.2).
func TestExample(t *testing.T) {
	x := built(t, column(number(3), api.Value{}, number(1), number(3)), 0)
	for i, c := range []struct{ got, want []int }{
		{x.Eq(number(3)), []int{0, 3}},
		{x.Hash(number(3)), []int{0, 3}},
		{x.Hash(api.Value{}), nil},
		{x.Eq(api.Value{}), nil},
		{x.All(), []int{1, 2, 0, 3}},
		{x.Range([]api.Value{number(2)}, nil), []int{0, 3}},
	} {
		if !slices.Equal(c.got, c.want) {
			t.Error(i, c.got, c.want)
		}
	}
	if x.Distinct() != 2 {
		t.Error(x.Distinct())
	}
}

// TestBuildErrors: P6.1, a row without the column, at any place among the rows, is ErrArg, with no index.
func TestBuildErrors(t *testing.T) {
	v := number(1)
	for i, c := range []struct {
		rows [][]api.Value
		col  int
		want api.Errno
	}{
		{[][]api.Value{{v}}, 0, api.OK},
		{[][]api.Value{{v}}, 1, api.ErrArg},
		{[][]api.Value{{v}}, 2, api.ErrArg},
		{[][]api.Value{{v}}, -1, api.ErrArg},
		{[][]api.Value{{v}}, math.MinInt, api.ErrArg},
		{[][]api.Value{{v}}, math.MaxInt, api.ErrArg},
		{[][]api.Value{{}}, 0, api.ErrArg},
		{[][]api.Value{nil}, 0, api.ErrArg},
		{[][]api.Value{nil, {v}}, 0, api.ErrArg},
		{[][]api.Value{{v}, nil}, 0, api.ErrArg},
		{[][]api.Value{{v, v}, {v}, {v, v}}, 1, api.ErrArg},
		{[][]api.Value{{v, v}, {v}, {v, v}}, 0, api.OK},
		{[][]api.Value{{v, v}, {v, v, v}, {v, v}}, 1, api.OK},
		{[][]api.Value{{v, v}, {v, v, v}, {v, v}}, -2, api.ErrArg},
		{nil, 0, api.OK},
		{nil, 7, api.OK},
		{[][]api.Value{}, math.MaxInt, api.OK},
	} {
		x, e := index.Build(c.rows, c.col)
		if e != c.want || (x == nil) != (e != api.OK) {
			t.Error(i, e, x)
		}
	}
}

// TestBuildColumn: P6.1, the index is of that column of rows that need not be of one length.
func TestBuildColumn(t *testing.T) {
	rows := [][]api.Value{
		{number(1), text("b"), truth(0)},
		{text("x"), text("a"), truth(1), number(9)},
		{{}, text("b"), {}},
	}
	for col := range 3 {
		var l, all []api.Value
		for _, r := range rows {
			l = append(l, r[col])
			all = append(all, r...)
		}
		check(t, built(t, rows, col), l, all)
	}
}

// TestEmpty: P6.1, P6.2, an index of no rows, and one of Nulls alone.
func TestEmpty(t *testing.T) {
	check(t, built(t, nil, 0), nil, edges())
	check(t, built(t, [][]api.Value{}, 3), nil, edges())
	nulls := make([]api.Value, 5)
	x := built(t, column(nulls...), 0)
	check(t, x, nulls, edges())
	if !slices.Equal(x.All(), []int{0, 1, 2, 3, 4}) || x.Distinct() != 0 || len(x.Range(nil, nil)) != 0 {
		t.Error(x.All(), x.Distinct(), x.Range(nil, nil))
	}
}

// TestBounds: P6.2, both bounds are within, and what is behind the first element of a bound counts for nothing.
func TestBounds(t *testing.T) {
	x := built(t, column(number(4), number(2), api.Value{}, number(3), number(2), number(5)), 0)
	for i, c := range []struct{ lo, hi, want []int }{
		{[]int{2}, []int{4}, []int{1, 4, 3, 0}},
		{[]int{3}, []int{3}, []int{3}},
		{[]int{3}, nil, []int{3, 0, 5}},
		{nil, []int{3}, []int{1, 4, 3}},
		{[]int{}, []int{}, []int{1, 4, 3, 0, 5}},
		{[]int{4}, []int{3}, nil},
		{[]int{9}, []int{-9}, nil},
		{[]int{9}, nil, nil},
		{nil, []int{1}, nil},
		{[]int{3, 9}, []int{4, 0}, []int{3, 0}},
		{[]int{math.MinInt}, []int{math.MaxInt}, []int{1, 4, 3, 0, 5}},
	} {
		var lo, hi []api.Value
		for _, n := range c.lo {
			lo = append(lo, number(n))
		}
		for _, n := range c.hi {
			hi = append(hi, number(n))
		}
		if got := x.Range(lo, hi); !slices.Equal(got, c.want) {
			t.Error(i, got, c.want)
		}
	}
}

// TestNulls: P6.1, P6.2, Nulls are in All alone, also where a Null is a bound.
func TestNulls(t *testing.T) {
	x := built(t, column(text(""), api.Value{}, number(math.MinInt), api.Value{}), 0)
	null := []api.Value{{}}
	for i, c := range []struct{ got, want []int }{
		{x.All(), []int{1, 3, 2, 0}},
		{x.Range(nil, nil), []int{2, 0}},
		{x.Range(null, nil), []int{2, 0}},
		{x.Range(nil, null), nil},
		{x.Range(null, null), nil},
		{x.Range([]api.Value{number(0)}, null), nil},
		{x.Eq(api.Value{}), nil},
		{x.Hash(api.Value{}), nil},
	} {
		if !slices.Equal(c.got, c.want) {
			t.Error(i, c.got, c.want)
		}
	}
	if x.Distinct() != 2 {
		t.Error(x.Distinct())
	}
}

// TestAlike: P6.1, P6.2, values that share a number or a text but not their Kind are different ones.
func TestAlike(t *testing.T) {
	l := []api.Value{truth(1), number(1), {Kind: api.Int, N: 1, S: "a"}, text("a"), {Kind: api.Text, N: 1, S: "a"}, number(1)}
	x := built(t, column(l...), 0)
	check(t, x, l, append(edges(), l...))
	if !slices.Equal(x.Eq(number(1)), []int{1, 5}) || !slices.Equal(x.Hash(truth(1)), []int{0}) || x.Distinct() != 5 {
		t.Error(x.Eq(number(1)), x.Hash(truth(1)), x.Distinct())
	}
}

// TestPairs: P6.1, P6.2, over all pairs of the edges, with a third that stands beside each.
func TestPairs(t *testing.T) {
	for _, a := range edges() {
		for _, b := range edges() {
			l := []api.Value{b, a, b}
			check(t, built(t, column(l...), 0), l, []api.Value{a, b, number(0)})
		}
	}
}

// TestAllEdges: P6.1, P6.2, over all edges at once, forwards, backwards and twice.
func TestAllEdges(t *testing.T) {
	l := edges()
	check(t, built(t, column(l...), 0), l, edges())
	slices.Reverse(l)
	check(t, built(t, column(l...), 0), l, edges())
	l = append(l, edges()...)
	check(t, built(t, column(l...), 0), l, edges())
}

// TestRandom: P6.1, P6.2, long columns of few values, so that many are equal.
func TestRandom(t *testing.T) {
	r := rand.New(rand.NewSource(6))
	all := edges()
	for range 200 {
		few := 1 + r.Intn(len(all))
		l := []api.Value{}
		for range r.Intn(40) {
			l = append(l, all[r.Intn(few)])
		}
		check(t, built(t, column(l...), 0), l, []api.Value{all[r.Intn(len(all))], all[r.Intn(few)], {}})
	}
}

// TestLong: P6.1, P6.2, more rows than any table has.
func TestLong(t *testing.T) {
	const many = 100000
	rows := make([][]api.Value, 0, many)
	for n := range many {
		rows = append(rows, []api.Value{text(strconv.Itoa(n % 1000))})
	}
	x := built(t, rows, 0)
	if x.Distinct() != 1000 || len(x.All()) != many || len(x.Range(nil, nil)) != many {
		t.Error(x.Distinct(), len(x.All()), len(x.Range(nil, nil)))
	}
	eq, hash := x.Eq(text("77")), x.Hash(text("77"))
	if len(eq) != many/1000 || eq[0] != 77 || eq[1] != 1077 || !slices.IsSorted(eq) || !slices.Equal(eq, hash) {
		t.Error(eq, hash)
	}
}

// TestLaterChanges: P6.1, the rows may be changed after Build; the index stays as it is.
func TestLaterChanges(t *testing.T) {
	l := []api.Value{number(2), text("a"), {}, number(1)}
	rows := column(l...)
	x := built(t, rows, 0)
	for n := range rows {
		rows[n][0] = number(7)
		rows[n] = nil
	}
	check(t, x, l, append(edges(), number(7)))
}

// spare is l with room behind its length that holds v.
func spare(l []api.Value, v api.Value) []api.Value {
	out := append(append([]api.Value{}, l...), v, v)
	return out[:len(l)]
}

// TestArguments: P3, no call changes an argument, nor what lies behind its length.
func TestArguments(t *testing.T) {
	mark := text("mark")
	rows := [][]api.Value{spare([]api.Value{number(3)}, mark), spare([]api.Value{{}}, mark), {number(9)}}[:2]
	was := [][]api.Value{{number(3), mark, mark}, {{}, mark, mark}}
	x := built(t, rows, 0)
	lo, hi := spare([]api.Value{number(1)}, mark), spare([]api.Value{number(5)}, mark)
	x.Range(lo, hi)
	x.Range(lo[:0], hi[:0])
	for n, r := range rows {
		if !reflect.DeepEqual(r[:3], was[n]) {
			t.Error(n, r[:3])
		}
	}
	if behind := rows[:3][2]; !reflect.DeepEqual(behind, []api.Value{number(9)}) {
		t.Error(behind)
	}
	if !reflect.DeepEqual(lo[:3], []api.Value{number(1), mark, mark}) || !reflect.DeepEqual(hi[:3], []api.Value{number(5), mark, mark}) {
		t.Error(lo[:3], hi[:3])
	}
}

// TestResults: P3, what is done to one result, its spare room too, changes no other and not the index.
func TestResults(t *testing.T) {
	l := []api.Value{number(3), {}, number(1), number(3), text("a")}
	x := built(t, column(l...), 0)
	three := number(3)
	calls := []func() []int{
		func() []int { return x.Eq(three) },
		func() []int { return x.Hash(three) },
		func() []int { return x.Hash(text("a")) },
		func() []int { return x.Eq(number(1)) },
		func() []int { return x.Range([]api.Value{number(2)}, nil) },
		func() []int { return x.Range(nil, []api.Value{number(1)}) },
		func() []int { return x.Range(nil, nil) },
		func() []int { return x.All() },
		func() []int { return x.Eq(number(2)) },
		func() []int { return x.Hash(number(2)) },
		func() []int { return x.Eq(api.Value{}) },
	}
	for i, one := range calls {
		for k, other := range calls {
			kept := other()
			was := slices.Clone(kept)
			got := one()
			got = got[:cap(got)]
			for n := range got {
				got[n] = -1
			}
			if !slices.Equal(kept, was) {
				t.Error(i, k, kept, was)
			}
		}
	}
	check(t, x, l, append(edges(), three))
}

// TestSame: P4, an index answers the same however often and in whatever order it is asked, and two indexes of one column do.
func TestSame(t *testing.T) {
	l := append(edges(), edges()...)
	x, y := built(t, column(l...), 0), built(t, column(l...), 0)
	for range 20 {
		for _, v := range l {
			bound := []api.Value{v}
			if !slices.Equal(x.Eq(v), y.Hash(v)) || !slices.Equal(x.Range(bound, nil), y.Range(bound, nil)) || !slices.Equal(x.All(), y.All()) || x.Distinct() != y.Distinct() {
				t.Fatal(v)
			}
		}
	}
}
