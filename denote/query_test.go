package denote_test

import (
	"cmp"
	"math"
	"math/rand"
	"slices"
	"strings"
	"testing"

	"weathercock/api"
	"weathercock/denote"
	"weathercock/value"
)

// TestQuery: P11.3, the rows of all Blocks, sorted with Order, and whether something failed in one of them.
func TestQuery(t *testing.T) {
	queries(t, tables(),
		// Without an Order the rows are sorted all the same.
		asked{"SELECT a FROM t", "(-)(1)(2)(2)", false},
		asked{"SELECT a, b FROM t", "(- 'x')(1 'x')(2 -)(2 'y')", false},
		asked{"SELECT b, a FROM t", "(- 2)('x' -)('x' 1)('y' 2)", false},
		asked{"SELECT c, a FROM u", "(- 2)(false 1)(true 2)", false},
		asked{"SELECT a FROM w", "(-)(-9223372036854775808)(-1)(0)(1)(9223372036854775807)", false},
		asked{"SELECT a FROM e", "", false},

		asked{"SELECT a, b FROM t ORDER BY 1", "(- 'x')(1 'x')(2 -)(2 'y')", false},
		asked{"SELECT a, b FROM t ORDER BY 1 DESC", "(2 -)(2 'y')(1 'x')(- 'x')", false},
		asked{"SELECT a, b FROM t ORDER BY 2", "(2 -)(- 'x')(1 'x')(2 'y')", false},
		asked{"SELECT a, b FROM t ORDER BY 2 DESC", "(2 'y')(- 'x')(1 'x')(2 -)", false},
		asked{"SELECT a, b FROM t ORDER BY 2, 1 DESC", "(2 -)(1 'x')(- 'x')(2 'y')", false},
		asked{"SELECT a, b FROM t ORDER BY 2 DESC, 1 DESC", "(2 'y')(1 'x')(- 'x')(2 -)", false},
		asked{"SELECT a, b FROM t ORDER BY 1 DESC, 2 DESC, 1", "(2 'y')(2 -)(1 'x')(- 'x')", false},
		asked{"SELECT a FROM w ORDER BY 1 DESC", "(9223372036854775807)(1)(0)(-1)(-9223372036854775808)(-)", false},
		asked{"SELECT DISTINCT a FROM t ORDER BY 1 DESC", "(2)(1)(-)", false},
		asked{"SELECT b, COUNT(*) FROM t GROUP BY b ORDER BY 2 DESC, 1 DESC", "('x' 2)('y' 1)(- 1)", false},

		// All blocks, each one as often as it is there; Distinct is of a block.
		asked{"SELECT a FROM t UNION ALL SELECT a FROM u", "(-)(1)(1)(2)(2)(2)(2)", false},
		asked{"SELECT DISTINCT a FROM t UNION ALL SELECT a FROM u", "(-)(1)(1)(2)(2)(2)", false},
		asked{"SELECT DISTINCT a FROM t UNION ALL SELECT DISTINCT a FROM t UNION ALL SELECT DISTINCT a FROM t", "(-)(-)(-)(1)(1)(1)(2)(2)(2)", false},
		asked{"SELECT a FROM t WHERE a = 1 UNION ALL SELECT COUNT(*) FROM t UNION ALL SELECT a FROM e UNION ALL SELECT NULL FROM u ORDER BY 1 DESC", "(4)(1)(-)(-)(-)", false},
		asked{"SELECT NULL, a FROM u UNION ALL SELECT b, a FROM t ORDER BY 1, 2 DESC", "(- 2)(- 2)(- 2)(- 1)('x' 1)('x' -)('y' 2)", false},

		asked{"SELECT 1 / a FROM u UNION ALL SELECT a FROM u", "(0)(0)(1)(1)(2)(2)", false},
		asked{"SELECT 1 / (a - 1) FROM u UNION ALL SELECT a FROM u", "(1)(1)(1)(2)(2)", true},
		asked{"SELECT a FROM u UNION ALL SELECT 1 / (a - 1) FROM u", "(1)(1)(1)(2)(2)", true},
		asked{"SELECT a FROM u UNION ALL SELECT 1 / (a - 1) FROM u UNION ALL SELECT a FROM u", "(1)(1)(1)(1)(2)(2)(2)(2)", true},
		asked{"SELECT 1 / 0 FROM u UNION ALL SELECT 1 / 0 FROM t", "", true},
		asked{"SELECT SUM(a * 0 + " + great + ") FROM u UNION ALL SELECT a FROM u WHERE c", "(2)", true},
	)
	if rows, failed := denote.Query(tables(), nil, api.Bound{}); len(rows) > 0 || failed {
		t.Error(shown(rows), failed)
	}
}

// TestSort: P11.3, by the keys, the first one first, and then by row.Compare.
func TestSort(t *testing.T) {
	up := func(l ...int) []api.Key {
		var out []api.Key
		for _, n := range l {
			out = append(out, api.Key{Col: n})
		}
		return out
	}
	down := func(col int) api.Key { return api.Key{Col: col, Desc: true} }
	rows := [][]api.Value{line(2, "a"), line(), line(1, "b", true), line(nil), line(1, "b"), line(2), line(1, nil, false), line(true), line("", 0), line(2, "a")}
	for _, c := range []struct {
		order []api.Key
		want  string
	}{
		{nil, "()(-)(1 - false)(1 'b')(1 'b' true)(2)(2 'a')(2 'a')(true)('' 0)"},
		{up(0), "()(-)(1 - false)(1 'b')(1 'b' true)(2)(2 'a')(2 'a')(true)('' 0)"},
		{[]api.Key{down(0)}, "('' 0)(true)(2)(2 'a')(2 'a')(1 - false)(1 'b')(1 'b' true)()(-)"},
		{up(1), "()(-)(1 - false)(2)(true)('' 0)(2 'a')(2 'a')(1 'b')(1 'b' true)"},
		{[]api.Key{down(1)}, "(1 'b')(1 'b' true)(2 'a')(2 'a')('' 0)()(-)(1 - false)(2)(true)"},
		{up(2), "()(-)(1 'b')(2)(2 'a')(2 'a')(true)('' 0)(1 - false)(1 'b' true)"},
		{[]api.Key{down(2)}, "(1 'b' true)(1 - false)()(-)(1 'b')(2)(2 'a')(2 'a')(true)('' 0)"},
		{[]api.Key{down(1), {Col: 2}, down(0)}, "(1 'b')(1 'b' true)(2 'a')(2 'a')('' 0)(true)(2)()(-)(1 - false)"},
		{[]api.Key{{Col: 2}, down(1)}, "(1 'b')(2 'a')(2 'a')('' 0)()(-)(2)(true)(1 - false)(1 'b' true)"},
		{[]api.Key{down(0), {Col: 0}, down(1)}, "('' 0)(true)(2 'a')(2 'a')(2)(1 'b')(1 'b' true)(1 - false)()(-)"},

		// No row has such a column: all are equal in it.
		{up(3), "()(-)(1 - false)(1 'b')(1 'b' true)(2)(2 'a')(2 'a')(true)('' 0)"},
		{[]api.Key{down(-1), down(math.MinInt), down(math.MaxInt), down(3)}, "()(-)(1 - false)(1 'b')(1 'b' true)(2)(2 'a')(2 'a')(true)('' 0)"},
		{[]api.Key{{Col: -1}, down(0)}, "('' 0)(true)(2)(2 'a')(2 'a')(1 - false)(1 'b')(1 'b' true)()(-)"},
	} {
		if got := denote.Sort(rows, c.order); shown(got) != c.want {
			t.Errorf("%v: %s, want %s", c.order, shown(got), c.want)
		}
	}
	for _, l := range [][][]api.Value{nil, {}} {
		if got := denote.Sort(l, up(0, 1)); len(got) > 0 {
			t.Error(got)
		}
	}
}

// sortedPlainly puts each row ahead of the first one that comes behind it.
func sortedPlainly(rows [][]api.Value, order []api.Key) [][]api.Value {
	at := func(r []api.Value, col int) api.Value {
		if col >= 0 && col < len(r) {
			return r[col]
		}
		return api.Value{}
	}
	ahead := func(a, b []api.Value) bool {
		for _, k := range order {
			c := value.Compare(at(a, k.Col), at(b, k.Col))
			if c != 0 {
				return c < 0 != k.Desc
			}
		}
		for i := range min(len(a), len(b)) {
			if c := value.Compare(a[i], b[i]); c != 0 {
				return c < 0
			}
		}
		return len(a) < len(b)
	}
	var out [][]api.Value
	for _, r := range rows {
		i := 0
		for i < len(out) && !ahead(r, out[i]) {
			i++
		}
		out = slices.Insert(out, i, r)
	}
	return out
}

// TestSortAny: P11.3, any rows and keys, also rows of values that are not valid; the order in which the rows come does not matter.
func TestSortAny(t *testing.T) {
	r := rand.New(rand.NewSource(1))
	values := []api.Value{{}, {}, of(0), of(1), of(-1), of(math.MaxInt), of(math.MinInt), of(true), of(false), of(""), of("a"), of("ab"), of("b"), of("\xff"), {Kind: 9}, {Kind: -1, N: 3}, {N: 1}, {S: "z"}, {Kind: api.Int, N: 1, S: "q"}, of(strings.Repeat("a", 300))}
	for range 3000 {
		var rows [][]api.Value
		for range r.Intn(12) {
			l := make([]api.Value, r.Intn(4))
			for i := range l {
				l[i] = values[r.Intn(len(values))]
			}
			rows = append(rows, l)
		}
		order := make([]api.Key, r.Intn(4))
		for i := range order {
			order[i] = api.Key{Col: r.Intn(6) - 1, Desc: r.Intn(2) == 0}
		}
		want := sortedPlainly(rows, order)
		for range 3 {
			got := denote.Sort(rows, order)
			if !slices.EqualFunc(got, want, func(a, b []api.Value) bool { return slices.Equal(a, b) }) {
				t.Fatalf("%v by %v: %v, want %v", rows, order, got, want)
			}
			r.Shuffle(len(rows), func(i, k int) { rows[i], rows[k] = rows[k], rows[i] })
		}
	}
	var long [][]api.Value
	for i := range 50000 {
		long = append(long, line(i*7919%1000, i*104729%50000))
	}
	got := denote.Sort(long, []api.Key{{Desc: true}})
	if len(got) != len(long) || !slices.IsSortedFunc(got, func(a, b []api.Value) int { return cmp.Or(b[0].N-a[0].N, a[1].N-b[1].N) }) {
		t.Error(len(got))
	}
}
