package denote_test

import (
	"fmt"
	"math"
	"slices"
	"strings"
	"testing"

	"weathercock/api"
	"weathercock/bind"
	"weathercock/denote"
	"weathercock/parse"
)

// of is the value that x stands for: nil, an int, a bool or a string.
func of(x any) api.Value {
	switch x := x.(type) {
	case int:
		return api.Value{Kind: api.Int, N: x}
	case bool:
		if x {
			return api.Value{Kind: api.Bool, N: 1}
		}
		return api.Value{Kind: api.Bool}
	case string:
		return api.Value{Kind: api.Text, S: x}
	}
	return api.Value{}
}

func line(l ...any) []api.Value {
	var out []api.Value
	for _, x := range l {
		out = append(out, of(x))
	}
	return out
}

// table has the columns that cols names, with the first letter of each one's kind: "a:i b:t c:b".
func table(name, cols string, rows ...[]api.Value) api.Table {
	t := api.Table{Name: name, Rows: rows}
	for _, s := range strings.Fields(cols) {
		n, k, _ := strings.Cut(s, ":")
		t.Cols = append(t.Cols, api.Column{Name: n, Kind: map[string]int{"i": api.Int, "b": api.Bool, "t": api.Text}[k]})
	}
	return t
}

// numbers is a table with one column a.
func numbers(name string, l ...any) api.Table {
	t := table(name, "a:i")
	for _, x := range l {
		t.Rows = append(t.Rows, line(x))
	}
	return t
}

// tables are those that most queries here are about; e is empty.
func tables() []api.Table {
	return []api.Table{
		table("t", "a:i b:t", line(1, "x"), line(2, "y"), line(nil, "x"), line(2, nil)),
		table("u", "a:i c:b", line(2, true), line(1, false), line(2, nil)),
		table("e", "a:i b:t"),
		numbers("w", 0, math.MaxInt, math.MinInt, 1, -1, nil),
	}
}

func bound(t *testing.T, l []api.Table, params []api.Value, s string) api.Bound {
	t.Helper()
	q, e, at := parse.Parse(s)
	if e != api.OK {
		t.Fatalf("%q: error %d at %d", s, e, at)
	}
	b, e := bind.Bind(l, params, q)
	if e != api.OK {
		t.Fatalf("%q: error %d of Bind", s, e)
	}
	return b
}

// tryBind is bound for a query that may not be one: it may have too many conditions, or types that do not fit.
func tryBind(l []api.Table, params []api.Value, s string) (api.Bound, bool) {
	q, e, _ := parse.Parse(s)
	if e != api.OK {
		return api.Bound{}, false
	}
	b, e := bind.Bind(l, params, q)
	return b, e == api.OK
}

func shownValue(v api.Value) string {
	switch v.Kind {
	case api.Int:
		return fmt.Sprint(v.N)
	case api.Bool:
		return fmt.Sprint(v.N == 1)
	case api.Text:
		return "'" + v.S + "'"
	}
	return "-"
}

// shown writes rows like (1 'x' true -).
func shown(rows [][]api.Value) string {
	s := ""
	for _, r := range rows {
		var l []string
		for _, v := range r {
			l = append(l, shownValue(v))
		}
		s += "(" + strings.Join(l, " ") + ")"
	}
	return s
}

// pairs writes combinations like (0 -1).
func pairs(l [][]int) string {
	s := ""
	for _, c := range l {
		s += "(" + strings.Trim(fmt.Sprint(c), "[]") + ")"
	}
	return s
}

// asked is a query, and what it is to answer.
type asked struct {
	s, want string
	failed  bool
}

// queries checks what Query answers.
func queries(t *testing.T, l []api.Table, all ...asked) {
	t.Helper()
	for _, c := range all {
		rows, failed := denote.Query(l, nil, bound(t, l, nil, c.s))
		if shown(rows) != c.want || failed != c.failed {
			t.Errorf("Query of %s: %s, %v, want %s, %v", c.s, shown(rows), failed, c.want, c.failed)
		}
	}
}

// blocks checks what Block answers for a query of one select: the order of its rows counts.
func blocks(t *testing.T, l []api.Table, all ...asked) {
	t.Helper()
	for _, c := range all {
		rows, failed := denote.Block(l, nil, bound(t, l, nil, c.s).Blocks[0])
		if shown(rows) != c.want || failed != c.failed {
			t.Errorf("Block of %s: %s, %v, want %s, %v", c.s, shown(rows), failed, c.want, c.failed)
		}
	}
}

// TestExamples: the chapter's and the document's examples.
func TestExamples(t *testing.T) {
	queries(t, []api.Table{numbers("t", 1, 2, nil)},
		asked{"SELECT a FROM t WHERE a > 1", "(2)", false},
		asked{"SELECT 2 / (a - 1) FROM t", "(-)(2)", true},
		asked{"SELECT COUNT(*), SUM(a), MIN(a) FROM t WHERE a > 5", "(0 - -)", false},
		asked{"SELECT a FROM t ORDER BY 1 DESC", "(2)(1)(-)", false},
		asked{"SELECT 1 / (a - a) FROM t", "(-)", true},
	)
}

// TestCore: P11.1, the combinations of the first Core tables, in lexicographic order.
func TestCore(t *testing.T) {
	l := tables()
	params := []api.Value{of(2), {}, of(true)}
	for s, want := range map[string]string{
		"t": "(0)(1)(2)(3)", "e": "", "t, e": "", "e, t": "", "e, e f": "", "t, e, u": "",
		"t, u": "(0 0)(0 1)(0 2)(1 0)(1 1)(1 2)(2 0)(2 1)(2 2)(3 0)(3 1)(3 2)",
		"u, t": "(0 0)(0 1)(0 2)(0 3)(1 0)(1 1)(1 2)(1 3)(2 0)(2 1)(2 2)(2 3)",

		// All of Conds are true: neither false nor NULL.
		"t WHERE a = 2": "(1)(3)", "t WHERE NOT a = 2": "(0)", "t WHERE a IS NULL": "(2)", "t WHERE a = NULL": "", "t WHERE a = a": "(0)(1)(3)",
		"t WHERE a = 2 AND b IS NULL": "(3)", "t WHERE b = 'x' AND a IS NULL": "(2)", "t WHERE a = 2 OR b = 'x'": "(0)(1)(2)(3)", "t WHERE a = 2 AND b = 'x'": "",
		"u WHERE c": "(0)", "u WHERE NOT c": "(1)", "u WHERE c IS NULL": "(2)",
		"t WHERE a = $1": "(1)(3)", "t WHERE a = $2": "", "t WHERE a < $1 OR NOT $3": "(0)",

		"t x, t y WHERE x.a = y.a":                                      "(0 0)(1 1)(1 3)(3 1)(3 3)",
		"t x, t y WHERE x.a < y.a":                                      "(0 1)(0 3)",
		"t x, t y WHERE y.a < x.a":                                      "(1 0)(3 0)",
		"t JOIN u ON t.a = u.a":                                         "(0 1)(1 0)(1 2)(3 0)(3 2)",
		"t JOIN u ON t.a = u.a AND c":                                   "(1 0)(3 0)",
		"t JOIN u ON c WHERE b = 'x'":                                   "(0 0)(2 0)",
		"u JOIN t ON t.a = u.a":                                         "(0 1)(0 3)(1 0)(2 1)(2 3)",
		"u JOIN t ON c":                                                 "(0 0)(0 1)(0 2)(0 3)",
		"u x, t, u y WHERE x.a = y.a AND t.b = 'y'":                     "(0 1 0)(0 1 2)(1 1 1)(2 1 0)(2 1 2)",
		"u x, t, u y WHERE x.c AND t.a = 1":                             "(0 0 0)(0 0 1)(0 0 2)",
		"u p, u q, u r, u s WHERE p.c AND q.c AND r.c AND NOT s.c":      "(0 0 0 1)",
		"u p, u q, u r, u s WHERE s.c AND r.c IS NULL AND q.a = 1":      "(0 1 2 0)(1 1 2 0)(2 1 2 0)",
		"u p, u q, u r, u s WHERE p.a < q.a AND r.a < s.a AND q.a = 2":  "(1 0 1 0)(1 0 1 2)(1 2 1 0)(1 2 1 2)",
		"u p, u q, u r, u s WHERE s.a < p.a AND q.c AND r.c AND q.c":    "(0 0 0 1)(2 0 0 1)",
		"u p, u q, u r, u s WHERE p.c OR q.c IS NULL AND r.c AND s.a=1": "(0 0 0 0)(0 0 0 1)(0 0 0 2)(0 0 1 0)(0 0 1 1)(0 0 1 2)(0 0 2 0)(0 0 2 1)(0 0 2 2)(0 1 0 0)(0 1 0 1)(0 1 0 2)(0 1 1 0)(0 1 1 1)(0 1 1 2)(0 1 2 0)(0 1 2 1)(0 1 2 2)(0 2 0 0)(0 2 0 1)(0 2 0 2)(0 2 1 0)(0 2 1 1)(0 2 1 2)(0 2 2 0)(0 2 2 1)(0 2 2 2)(1 2 0 1)(2 2 0 1)",

		// What stands in After, in Unsafe or in On is not asked here, and the other tables do not come in.
		"t WHERE FALSE": "(0)(1)(2)(3)", "t WHERE 1 / 0 = 1": "(0)(1)(2)(3)", "t WHERE a + 1 = 2": "(0)(1)(2)(3)", "t WHERE $1 = 3": "(0)(1)(2)(3)",
		"t LEFT JOIN u ON FALSE":               "(0)(1)(2)(3)",
		"t SEMI JOIN u ON FALSE":               "(0)(1)(2)(3)",
		"t SEMI JOIN e ON TRUE WHERE t.a = 2":  "(1)(3)",
		"t LEFT JOIN u ON t.a = u.a WHERE c":   "(0)(1)(2)(3)",
		"t, u x LEFT JOIN u ON TRUE WHERE x.c": "(0 0)(1 0)(2 0)(3 0)",
	} {
		b := bound(t, l, params, "SELECT 1 FROM "+s).Blocks[0]
		if c := denote.Core(l, params, b); pairs(c) != want {
			t.Errorf("Core of %s: %s, want %s", s, pairs(c), want)
		}
	}
}

// twenty is a table with as many rows as may be, with the numbers from 0 on.
func twenty() api.Table {
	t := numbers("t")
	for i := range api.MaxRows {
		t.Rows = append(t.Rows, line(i))
	}
	return t
}

// TestCoreWhole: P11.1, as many tables and rows as may be.
func TestCoreWhole(t *testing.T) {
	l := []api.Table{twenty()}
	got := denote.Core(l, nil, bound(t, l, nil, "SELECT 1 FROM t a, t b, t c, t d").Blocks[0])
	if len(got) != 160000 {
		t.Fatal(len(got))
	}
	for i, c := range got {
		if !slices.Equal(c, []int{i / 8000, i / 400 % 20, i / 20 % 20, i % 20}) {
			t.Fatal(i, c)
		}
	}
	got = denote.Core(l, nil, bound(t, l, nil, "SELECT 1 FROM t a, t b, t c, t d WHERE a.a < b.a AND b.a < c.a AND c.a < d.a").Blocks[0])
	want := [][]int{}
	for a := range 20 {
		for b := a + 1; b < 20; b++ {
			for c := b + 1; c < 20; c++ {
				for d := c + 1; d < 20; d++ {
					want = append(want, []int{a, b, c, d})
				}
			}
		}
	}
	if pairs(got) != pairs(want) {
		t.Fatal(len(got), len(want))
	}
}

// TestOuter: P11.1, the other tables come in, one after the other.
func TestOuter(t *testing.T) {
	l := tables()
	for s, want := range map[string]string{
		"t":                                  "(0)(1)(2)(3)",
		"t, u WHERE t.a = 1":                 "(0 0)(0 1)(0 2)",
		"t LEFT JOIN u ON t.a = u.a":         "(0 1)(1 0)(1 2)(2 -1)(3 0)(3 2)",
		"t LEFT JOIN u ON TRUE":              "(0 0)(0 1)(0 2)(1 0)(1 1)(1 2)(2 0)(2 1)(2 2)(3 0)(3 1)(3 2)",
		"t LEFT JOIN u ON FALSE":             "(0 -1)(1 -1)(2 -1)(3 -1)",
		"t LEFT JOIN u ON NULL":              "(0 -1)(1 -1)(2 -1)(3 -1)",
		"t LEFT JOIN u ON c":                 "(0 0)(1 0)(2 0)(3 0)",
		"t LEFT JOIN u ON b = 'x'":           "(0 0)(0 1)(0 2)(1 -1)(2 0)(2 1)(2 2)(3 -1)",
		"t LEFT JOIN e ON TRUE":              "(0 -1)(1 -1)(2 -1)(3 -1)",
		"e LEFT JOIN t ON TRUE":              "",
		"t SEMI JOIN u ON t.a = u.a":         "(0 -1)(1 -1)(3 -1)",
		"t SEMI JOIN u ON TRUE":              "(0 -1)(1 -1)(2 -1)(3 -1)",
		"t SEMI JOIN u ON FALSE":             "",
		"t SEMI JOIN u ON NULL":              "",
		"t SEMI JOIN e ON TRUE":              "",
		"e SEMI JOIN t ON TRUE":              "",
		"t SEMI JOIN u ON b = 'y'":           "(1 -1)",
		"t SEMI JOIN u ON u.a < t.a":         "(1 -1)(3 -1)",
		"t SEMI JOIN u ON c IS NULL":         "(0 -1)(1 -1)(2 -1)(3 -1)",
		"u SEMI JOIN u x ON NOT x.c":         "(0 -1)(1 -1)(2 -1)",
		"u SEMI JOIN t ON t.a IS NULL AND c": "(0 -1)",

		// The row of a table that has none is one of Nulls.
		"t LEFT JOIN u ON t.a = u.a LEFT JOIN u v ON v.a = u.a":              "(0 1 1)(1 0 0)(1 0 2)(1 2 0)(1 2 2)(2 -1 -1)(3 0 0)(3 0 2)(3 2 0)(3 2 2)",
		"t LEFT JOIN u ON t.a = u.a LEFT JOIN u v ON u.a IS NULL AND v.c":    "(0 1 -1)(1 0 -1)(1 2 -1)(2 -1 0)(3 0 -1)(3 2 -1)",
		"t LEFT JOIN u ON t.a = u.a LEFT JOIN u v ON u.c IS NULL":            "(0 1 -1)(1 0 -1)(1 2 0)(1 2 1)(1 2 2)(2 -1 0)(2 -1 1)(2 -1 2)(3 0 -1)(3 2 0)(3 2 1)(3 2 2)",
		"t LEFT JOIN u ON t.a = u.a SEMI JOIN u v ON v.a = u.a":              "(0 1 -1)(1 0 -1)(1 2 -1)(3 0 -1)(3 2 -1)",
		"t LEFT JOIN u ON t.a = u.a SEMI JOIN u v ON u.a IS NULL":            "(2 -1 -1)",
		"t SEMI JOIN u ON t.a = u.a LEFT JOIN u v ON v.a = t.a":              "(0 -1 1)(1 -1 0)(1 -1 2)(3 -1 0)(3 -1 2)",
		"t SEMI JOIN u ON t.a IS NULL LEFT JOIN u v ON v.a = t.a":            "(2 -1 -1)",
		"t SEMI JOIN u ON t.a = u.a SEMI JOIN u v ON t.b = 'x'":              "(0 -1 -1)",
		"t SEMI JOIN u ON FALSE LEFT JOIN u v ON TRUE":                       "",
		"t LEFT JOIN e ON TRUE LEFT JOIN e f ON TRUE":                        "(0 -1 -1)(1 -1 -1)(2 -1 -1)(3 -1 -1)",
		"t, u x LEFT JOIN u ON t.a = u.a AND x.c LEFT JOIN t z ON z.a = u.a": "(0 0 1 0)(0 1 -1 -1)(0 2 -1 -1)(1 0 0 1)(1 0 0 3)(1 0 2 1)(1 0 2 3)(1 1 -1 -1)(1 2 -1 -1)(2 0 -1 -1)(2 1 -1 -1)(2 2 -1 -1)(3 0 0 1)(3 0 0 3)(3 0 2 1)(3 0 2 3)(3 1 -1 -1)(3 2 -1 -1)",

		// What stands in After or in Unsafe is not asked here.
		"t LEFT JOIN u ON t.a = u.a WHERE c":             "(0 1)(1 0)(1 2)(2 -1)(3 0)(3 2)",
		"t SEMI JOIN u ON t.a = u.a WHERE 1 / 0 = 1":     "(0 -1)(1 -1)(3 -1)",
		"t LEFT JOIN u ON FALSE WHERE FALSE AND t.a = 2": "(1 -1)(3 -1)",
	} {
		b := bound(t, l, nil, "SELECT 1 FROM "+s).Blocks[0]
		core := denote.Core(l, nil, b)
		if c := denote.Outer(l, nil, b, core); pairs(c) != want {
			t.Errorf("Outer of %s: %s, want %s", s, pairs(c), want)
		}
	}
}

// TestOuterOfAny: P11.1, Outer extends the combinations that it is given, in their order, whatever Conds says of them.
func TestOuterOfAny(t *testing.T) {
	l := tables()
	params := []api.Value{of(2), of(false)}
	for _, c := range []struct {
		s    string
		core [][]int
		want string
	}{
		{"t LEFT JOIN u ON t.a = u.a", nil, ""},
		{"t LEFT JOIN u ON t.a = u.a", [][]int{}, ""},
		{"t LEFT JOIN u ON t.a = u.a", [][]int{{3}, {0}, {3}, {2}}, "(3 0)(3 2)(0 1)(3 0)(3 2)(2 -1)"},
		{"t LEFT JOIN u ON t.a = u.a WHERE t.a = 1", [][]int{{1}, {2}}, "(1 0)(1 2)(2 -1)"},
		{"t LEFT JOIN u ON u.a = $1", [][]int{{1}}, "(1 0)(1 2)"},
		{"t LEFT JOIN u ON $2", [][]int{{1}}, "(1 -1)"},
		{"t SEMI JOIN u ON t.a = u.a", [][]int{{3}, {2}, {3}, {0}}, "(3 -1)(3 -1)(0 -1)"},
		{"t", [][]int{{3}, {2}, {3}}, "(3)(2)(3)"},
		{"t, u LEFT JOIN u v ON v.a = u.a", [][]int{{3, 1}, {0, 2}}, "(3 1 1)(0 2 0)(0 2 2)"},

		// -1 is no row.
		{"t LEFT JOIN u ON t.a = u.a", [][]int{{-1}, {0}}, "(-1 -1)(0 1)"},
		{"t LEFT JOIN u ON t.a IS NULL AND t.b IS NULL", [][]int{{-1}, {2}}, "(-1 0)(-1 1)(-1 2)(2 -1)"},
		{"t SEMI JOIN u ON t.b IS NULL", [][]int{{-1}, {0}, {3}}, "(-1 -1)(3 -1)"},
		{"t, e SEMI JOIN u ON e.b IS NULL", [][]int{{1, -1}}, "(1 -1 -1)"},

		// Nothing else is a combination.
		{"t", [][]int{{4}}, ""}, {"t", [][]int{{-2}}, ""}, {"t", [][]int{{}}, ""}, {"t", [][]int{nil}, ""}, {"t", [][]int{{0, 0}}, ""}, {"t", [][]int{{0}, {math.MaxInt}}, ""}, {"t", [][]int{{0}, {math.MinInt}}, ""},
		{"t LEFT JOIN u ON TRUE", [][]int{{0, 0}}, ""}, {"t, e", [][]int{{0, 0}}, ""}, {"t, u", [][]int{{0}}, ""}, {"t, u", [][]int{{0, 3}}, ""},
	} {
		b := bound(t, l, params, "SELECT 1 FROM "+c.s).Blocks[0]
		if got := denote.Outer(l, params, b, c.core); pairs(got) != c.want {
			t.Errorf("Outer of %s with %v: %s, want %s", c.s, c.core, pairs(got), c.want)
		}
	}
}

// TestBehind: a query that chapter 9 does not make may refer to a Semi table, or in an On to a table behind it: it has no row there.
func TestBehind(t *testing.T) {
	l := tables()
	isNull := func(rel int) []api.Expr {
		return []api.Expr{{Op: api.OpIs, L: []api.Expr{{Op: api.OpRef, Rel: rel}}}}
	}
	yes := []api.Expr{{Op: api.OpConst, V: of(true)}}
	q := api.Query{Selects: []api.Select{{
		Items: []api.Item{{E: api.Expr{Op: api.OpRef, Rel: 1}}, {E: api.Expr{Op: api.OpRef, Rel: 2}}},
		From:  []api.From{{Table: "t", Alias: "t"}, {Table: "u", Alias: "u", Kind: api.Left, On: isNull(2)}, {Table: "w", Alias: "w", Kind: api.Semi, On: yes}},
		Where: isNull(2),
	}}}
	b, e := bind.Bind(l, nil, q)
	if e != api.OK {
		t.Fatal(e)
	}
	if c := denote.Outer(l, nil, b.Blocks[0], [][]int{{0}}); pairs(c) != "(0 0 -1)(0 1 -1)(0 2 -1)" {
		t.Error(pairs(c))
	}
	if rows, failed := denote.Block(l, nil, b.Blocks[0]); shown(rows) != strings.Repeat("(2 -)(1 -)(2 -)", 4) || failed {
		t.Error(shown(rows), failed)
	}
}
