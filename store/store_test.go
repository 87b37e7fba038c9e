package store_test

import (
	"math"
	"math/rand"
	"reflect"
	"slices"
	"strings"
	"testing"

	"weathercock/api"
	"weathercock/store"
)

// words are those of chapter 7.
const words = "select distinct from join left semi on where group by union all order desc and or not is null true false count sum min max"

func number(n int) api.Value { return api.Value{Kind: api.Int, N: n} }

func truth(n int) api.Value { return api.Value{Kind: api.Bool, N: n} }

func text(s string) api.Value { return api.Value{Kind: api.Text, S: s} }

// sample is two tables with columns of every Kind; each call makes new ones.
func sample() []api.Table {
	return []api.Table{
		{
			Name: "t",
			Cols: []api.Column{{Name: "a", Kind: api.Int}, {Name: "b", Kind: api.Bool}, {Name: "c", Kind: api.Text}},
			Rows: [][]api.Value{{number(1), truth(0), text("x")}, {{}, {}, {}}, {number(math.MinInt), truth(1), text("")}},
		},
		{Name: "u_2", Cols: []api.Column{{Name: "a", Kind: api.Text}}},
	}
}

func opened(t *testing.T, l []api.Table) *store.Store {
	t.Helper()
	s, e := store.Open(l)
	if e != api.OK || s == nil {
		t.Fatal("Open:", e)
	}
	return s
}

// names is n names that are valid and pairwise different.
func names(n int) []string {
	var out []string
	for i := range n {
		out = append(out, "n"+strings.Repeat("0", i/10)+string(rune('0'+i%10)))
	}
	return out
}

// rowsOf is n rows of one number.
func rowsOf(n int) [][]api.Value {
	out := [][]api.Value{}
	for i := range n {
		out = append(out, []api.Value{number(i)})
	}
	return out
}

// columnsOf is n columns of the Kind Int.
func columnsOf(n int) []api.Column {
	var out []api.Column
	for _, s := range names(n) {
		out = append(out, api.Column{Name: s, Kind: api.Int})
	}
	return out
}

// tablesOf is n tables of one column.
func tablesOf(n int) []api.Table {
	var out []api.Table
	for _, s := range names(n) {
		out = append(out, api.Table{Name: s, Cols: columnsOf(1)})
	}
	return out
}

// TestExamples: the chapter's examples (P5.1, P5.2).
func TestExamples(t *testing.T) {
	s := opened(t, []api.Table{{Name: "t", Cols: []api.Column{{Name: "a", Kind: api.Int}}, Rows: [][]api.Value{{number(1)}, {{}}}}})
	if n := s.Many(0); n != 2 {
		t.Error("Many(0) =", n)
	}
	if r, ok := s.Row(0, 1); !ok || !slices.Equal(r, []api.Value{{}}) {
		t.Error("Row(0, 1) =", r, ok)
	}
	if n := s.Find("u"); n != -1 {
		t.Error("Find(u) =", n)
	}
	if store.Name("select") || !store.Name("a_1") {
		t.Error("Name")
	}
}

// TestNameWords: no word is a name, and what is only near a word is one (P5.1).
func TestNameWords(t *testing.T) {
	l := strings.Fields(words)
	if len(l) != 25 {
		t.Fatal(len(l), "words")
	}
	for _, w := range l {
		if store.Name(w) {
			t.Error(w)
		}
		for _, near := range []string{w + "s", w + "_", w + "0", "x" + w, w + w, w[:1] + "_" + w[1:], w[:len(w)-1] + "0"} {
			if !store.Name(near) {
				t.Error(near)
			}
		}
		for _, wrong := range []string{strings.ToUpper(w), " " + w, w + " ", "_" + w, "0" + w} {
			if store.Name(wrong) {
				t.Error(wrong)
			}
		}
	}
	for _, s := range []string{"inner", "as", "asc", "having", "limit", "avg", "in", "exists", "a", "z", "s", "selec", "o"} {
		if !store.Name(s) {
			t.Error(s)
		}
	}
}

// TestNameBytes: every byte, alone, first, in the middle and last (P5.1).
func TestNameBytes(t *testing.T) {
	first, behind := "abcdefghijklmnopqrstuvwxyz", "abcdefghijklmnopqrstuvwxyz0123456789_"
	for b := range 256 {
		s := string([]byte{byte(b)})
		starts, follows := strings.Contains(first, s), strings.Contains(behind, s)
		if store.Name(s) != starts || store.Name(s+"q9") != starts {
			t.Error("first", b)
		}
		if store.Name("q"+s) != follows || store.Name("q"+s+"9") != follows || store.Name("qqqqqqqqqqqqqqqqqqq"+s) != follows {
			t.Error("behind", b)
		}
	}
	for _, s := range []string{"ä", "aä", "a\x00", "a b", "a-b", "a.b", "a\n", "aé", "１", "a\u0661"} {
		if store.Name(s) {
			t.Errorf("%q", s)
		}
	}
}

// TestNameLength: 1 to 20 bytes (P5.1).
func TestNameLength(t *testing.T) {
	for n := range 300 {
		for _, b := range []string{"a", "z"} {
			if got, want := store.Name(strings.Repeat(b, n)), n >= 1 && n <= 20; got != want {
				t.Error(n, got)
			}
		}
	}
	if store.Name(strings.Repeat("a", 1<<20)) {
		t.Error("a long name")
	}
}

// check holds Right and Open against what is wanted of l (P5.1, P5.2).
func check(t *testing.T, what string, l []api.Table, want bool) {
	t.Helper()
	if got := store.Right(l); got != want {
		t.Error(what, "Right:", got)
	}
	s, e := store.Open(l)
	if want && (e != api.OK || s == nil) || !want && (e != api.ErrArg || s != nil) {
		t.Error(what, "Open:", s, e)
	}
}

// TestRightLimits: how many tables, columns and rows there may be (P5.1).
func TestRightLimits(t *testing.T) {
	for n := range 30 {
		check(t, "tables", tablesOf(n), n <= api.MaxTables)
		check(t, "columns", []api.Table{{Name: "t", Cols: columnsOf(n)}}, n >= 1 && n <= api.MaxCols)
		check(t, "rows", []api.Table{{Name: "t", Cols: columnsOf(1), Rows: rowsOf(n)}}, n <= api.MaxRows)
		check(t, "rows of the last table", append(tablesOf(7), api.Table{Name: "t", Cols: columnsOf(1), Rows: rowsOf(n)}), n <= api.MaxRows)
	}
	check(t, "nil", nil, true)
	check(t, "empty", []api.Table{}, true)
	check(t, "many tables", make([]api.Table, 100000), false)
	check(t, "many columns", []api.Table{{Name: "t", Cols: make([]api.Column, 100000)}}, false)
	check(t, "many rows", []api.Table{{Name: "t", Cols: columnsOf(1), Rows: make([][]api.Value, 100000)}}, false)
	check(t, "a long row", []api.Table{{Name: "t", Cols: columnsOf(1), Rows: [][]api.Value{make([]api.Value, 100000)}}}, false)
}

// TestRightNames: names of tables and columns are valid and, within their list, pairwise different (P5.1).
func TestRightNames(t *testing.T) {
	for _, bad := range []string{"", "A", "_", "0", "a-", "a ", "select", "max", strings.Repeat("a", 21)} {
		for i := range 8 {
			l := tablesOf(8)
			l[i].Name = bad
			check(t, "table "+bad, l, false)
		}
		for i := range 6 {
			l := []api.Table{{Name: "t", Cols: columnsOf(6)}}
			l[0].Cols[i].Name = bad
			check(t, "column "+bad, l, false)
		}
	}
	for i := range 8 {
		for j := range i {
			l := tablesOf(8)
			l[i].Name = l[j].Name
			check(t, "twice a table", l, false)
		}
	}
	for i := range 6 {
		for j := range i {
			l := []api.Table{{Name: "o"}, {Name: "t", Cols: columnsOf(6)}}
			l[0].Cols = columnsOf(1)
			l[1].Cols[i].Name = l[1].Cols[j].Name
			check(t, "twice a column", l, false)
		}
	}
	same := tablesOf(2)
	same[0].Cols[0].Name, same[1].Cols[0].Name = same[0].Name, same[0].Name
	check(t, "a name of a table and of columns of two tables", same, true)
}

// TestRightKinds: a column's Kind, and the values that it may have (P5.1).
func TestRightKinds(t *testing.T) {
	for _, kind := range []int{math.MinInt, -1, api.Null, api.Int, api.Bool, api.Text, 4, 5, 256 + 1, math.MaxInt} {
		good := kind >= api.Int && kind <= api.Text
		check(t, "kind", []api.Table{{Name: "t", Cols: []api.Column{{Name: "a", Kind: kind}}}}, good)
		check(t, "last kind", []api.Table{{Name: "t", Cols: []api.Column{{Name: "a", Kind: api.Int}, {Name: "b", Kind: kind}}}}, good)
	}
	fitting := [][]api.Value{
		api.Int:  {{}, number(0), number(-1), number(math.MaxInt), number(math.MinInt)},
		api.Bool: {{}, truth(0), truth(1)},
		api.Text: {{}, text(""), text("x"), text(strings.Repeat("x", 40)), text("\x00\xff")},
	}
	wrong := []api.Value{
		{N: 1}, {S: "x"}, {Kind: api.Int, S: "x"}, truth(2), truth(-1), {Kind: api.Bool, S: "x"},
		{Kind: api.Text, N: 1}, text(strings.Repeat("x", 41)), {Kind: 4}, {Kind: -1}, {Kind: math.MaxInt}, {Kind: math.MinInt},
	}
	for kind := api.Int; kind <= api.Text; kind++ {
		for of := api.Int; of <= api.Text; of++ {
			for _, v := range fitting[of] {
				checkValue(t, kind, v, v.Kind == api.Null || of == kind)
			}
		}
		for _, v := range wrong {
			checkValue(t, kind, v, false)
		}
	}
}

// checkValue puts v into a column of that Kind: as the only value, and at each place among others.
func checkValue(t *testing.T, kind int, v api.Value, want bool) {
	t.Helper()
	check(t, "value", []api.Table{{Name: "t", Cols: []api.Column{{Name: "a", Kind: kind}}, Rows: [][]api.Value{{v}}}}, want)
	for i := range 3 {
		for j := range 3 {
			cols := columnsOf(3)
			cols[i].Kind = kind
			rows := [][]api.Value{{{}, {}, {}}, {{}, {}, {}}, {{}, {}, {}}}
			rows[j][i] = v
			check(t, "value among others", []api.Table{{Name: "s", Cols: columnsOf(1)}, {Name: "t", Cols: cols, Rows: rows}}, want)
		}
	}
}

// TestRightWidths: each row has as many values as there are columns (P5.1).
func TestRightWidths(t *testing.T) {
	for cols := 1; cols <= 6; cols++ {
		for n := range 12 {
			for at := range 3 {
				rows := [][]api.Value{make([]api.Value, cols), make([]api.Value, cols), make([]api.Value, cols)}
				rows[at] = make([]api.Value, n)
				check(t, "width", []api.Table{{Name: "t", Cols: columnsOf(cols), Rows: rows}}, n == cols)
			}
		}
	}
	check(t, "a nil row", []api.Table{{Name: "t", Cols: columnsOf(1), Rows: [][]api.Value{nil}}}, false)
}

// holds compares all that s tells of its tables with l (P5.2).
func holds(t *testing.T, s *store.Store, l []api.Table) {
	t.Helper()
	for i, x := range l {
		if n := s.Find(x.Name); n != i {
			t.Error("Find", x.Name, n)
		}
		if n := s.Many(i); n != len(x.Rows) {
			t.Error("Many", i, n)
		}
		if cols := s.Cols(i); !slices.Equal(cols, x.Cols) {
			t.Error("Cols", i, cols)
		}
		for n, want := range x.Rows {
			if r, ok := s.Row(i, n); !ok || !slices.Equal(r, want) {
				t.Error("Row", i, n, r, ok)
			}
		}
		for _, n := range []int{len(x.Rows), len(x.Rows) + 1, -1, -2, math.MaxInt, math.MinInt, 1 << 32, -1 << 32} {
			if r, ok := s.Row(i, n); ok || len(r) != 0 {
				t.Error("Row", i, n, r, ok)
			}
		}
	}
	for _, i := range []int{len(l), len(l) + 1, -1, -2, math.MaxInt, math.MinInt, 1 << 32, -1 << 32} {
		if n, cols := s.Many(i), s.Cols(i); n != 0 || len(cols) != 0 {
			t.Error("no table", i, n, cols)
		}
		for _, n := range []int{-1, 0, 1, math.MaxInt, math.MinInt} {
			if r, ok := s.Row(i, n); ok || len(r) != 0 {
				t.Error("Row of no table", i, n, r, ok)
			}
		}
	}
}

// TestTables: all that a store tells of its tables (P5.2).
func TestTables(t *testing.T) {
	full := tablesOf(8)
	for i := range full {
		full[i].Cols = columnsOf(i%6 + 1)
		for n := range i * 20 / 7 {
			r := make([]api.Value, i%6+1)
			for j := range r {
				r[j] = number(100*i + 10*n + j)
			}
			full[i].Rows = append(full[i].Rows, r)
		}
	}
	for _, l := range [][]api.Table{nil, {}, sample(), sample()[1:], full} {
		s := opened(t, l)
		holds(t, s, l)
		for _, name := range []string{"", "T", "u", "u_", "u_22", "a", "select", "t ", "n", "n8", "\x00"} {
			if n := s.Find(name); n != -1 {
				t.Error("Find", name, n)
			}
		}
	}
}

// TestTablesStay: neither what is kept nor another store changes the tables (P5.2, P5.3).
func TestTablesStay(t *testing.T) {
	s, other := opened(t, sample()), opened(t, tablesOf(3))
	s.Keep("t", [][]int{{7}})
	other.Keep("u_2", [][]int{{8}, {9}})
	holds(t, s, sample())
	holds(t, other, tablesOf(3))
	if n := s.Find("n0"); n != -1 {
		t.Error("Find", n)
	}
	if l := s.Signs(); !slices.Equal(l, []string{"t"}) {
		t.Error("Signs", l)
	}
	if r, ok := s.Kept("u_2"); ok || len(r) != 0 {
		t.Error("Kept", r, ok)
	}
}

// same compares lists of rows; a nil list is an empty one.
func same(a, b [][]int) bool { return slices.EqualFunc(a, b, slices.Equal[[]int]) }

// TestKeep: rows are stored, replaced, and told again (P5.3).
func TestKeep(t *testing.T) {
	s := opened(t, sample())
	if r, ok := s.Kept(""); ok || len(r) != 0 || len(s.Signs()) != 0 {
		t.Error("a new store", r, ok, s.Signs())
	}
	steps := []struct {
		sign string
		rows [][]int
	}{
		{"b", [][]int{{1, 2}, {3, 4}}},
		{"a", [][]int{{math.MinInt, math.MaxInt, 0, -1}}},
		{"b", [][]int{{5}}},
		{"", [][]int{{}, nil, {1}, {2, 3, 4, 5, 6, 7, 8, 9}}},
		{"b", nil},
		{"ab", [][]int{{1}, {1}, {1}}},
		{"a", [][]int{{9}, {8}, {7}, {8}}},
		{"\xff\x00", [][]int{{0}}},
		{"b", [][]int{{6, 6}}},
		{"a", [][]int{}},
	}
	model := map[string][][]int{}
	for i, step := range steps {
		s.Keep(step.sign, step.rows)
		model[step.sign] = step.rows
		keeps(t, i, s, model)
	}
	holds(t, s, sample())
}

// keeps compares what s keeps with the model, twice: telling changes nothing.
func keeps(t *testing.T, step int, s *store.Store, model map[string][][]int) {
	t.Helper()
	var want []string
	for sign := range model {
		want = append(want, sign)
	}
	slices.Sort(want)
	for range 2 {
		if l := s.Signs(); !slices.Equal(l, want) {
			t.Errorf("step %d: Signs %q, want %q", step, l, want)
		}
		for sign, rows := range model {
			if r, ok := s.Kept(sign); !ok || !same(r, rows) {
				t.Errorf("step %d: Kept(%q) = %v %v", step, sign, r, ok)
			}
			for _, none := range []string{sign + "x", sign + "\x00", "none"} {
				if _, there := model[none]; there {
					continue
				}
				if r, ok := s.Kept(none); ok || len(r) != 0 {
					t.Errorf("step %d: Kept(%q) = %v %v", step, none, r, ok)
				}
			}
		}
	}
}

// TestKeepLong: a long run of steps over few signatures, against a plain model (P5.3, P4).
func TestKeepLong(t *testing.T) {
	random := rand.New(rand.NewSource(5))
	signs := []string{"a", "aa", "b", "", "a\x00", "\xff", "é", "B", "10", "9", strings.Repeat("long", 1000)}
	s, model := opened(t, nil), map[string][][]int{}
	for i := range 2000 {
		sign := signs[random.Intn(len(signs))]
		rows := make([][]int, random.Intn(5))
		for j := range rows {
			rows[j] = make([]int, random.Intn(4))
			for k := range rows[j] {
				rows[j][k] = int(random.Uint64())
			}
		}
		s.Keep(sign, rows)
		model[sign] = rows
		if i%50 == 0 || i < 20 {
			keeps(t, i, s, model)
		}
	}
	keeps(t, 2000, s, model)
}

// TestSignsOrder: ascending byte by byte, a prefix first, however many there are and in whatever order they came (P5.3, P4).
func TestSignsOrder(t *testing.T) {
	want := []string{"", "\x00", "10", "9", "A", "Z", "a", "a\x00", "aa", "ab", "b", "z", "é", "\xff", "\xff\x00"}
	random := rand.New(rand.NewSource(1))
	for range 50 {
		s := opened(t, nil)
		for _, i := range random.Perm(len(want)) {
			s.Keep(want[i], [][]int{{i}})
		}
		if l := s.Signs(); !slices.Equal(l, want) {
			t.Errorf("%q", l)
		}
	}
	s := opened(t, nil)
	for i := range 5000 {
		s.Keep(string(rune(0x4e00+(i*7919)%5000)), nil)
	}
	if l := s.Signs(); len(l) != 5000 || !slices.IsSorted(l) {
		t.Error(len(l), "signatures")
	}
}

// TestOpenCopies: what the caller does with the tables afterwards changes nothing, and Open and Right change nothing of theirs (P3, P5.2).
func TestOpenCopies(t *testing.T) {
	spare := []api.Value{number(1), truth(0), text("x"), number(77)}
	l := append(sample(), api.Table{Name: "behind"})
	l[0].Rows[0] = spare[:3]
	l[0].Cols = append(l[0].Cols, api.Column{Name: "behind", Kind: 9})[:3]
	l[0].Rows = append(l[0].Rows, []api.Value{number(5)})[:3]
	l = l[:2]
	s := opened(t, l)
	if !store.Right(l) || !reflect.DeepEqual(l, sample()) {
		t.Error("the tables are changed:", l)
	}
	if spare[3] != number(77) || l[:3][2].Name != "behind" || l[0].Cols[:4][3].Kind != 9 || l[0].Rows[:4][3][0] != number(5) {
		t.Error("what is behind the length is changed")
	}
	spoil(l)
	holds(t, s, sample())
}

// spoil overwrites everything that l lists.
func spoil(l []api.Table) {
	for i := range l {
		for j := range l[i].Cols {
			l[i].Cols[j] = api.Column{Name: "spoilt", Kind: 9}
		}
		for _, r := range l[i].Rows {
			for j := range r {
				r[j] = text("spoilt")
			}
		}
		clear(l[i].Rows)
		l[i] = api.Table{Name: "spoilt"}
	}
}

// TestTablesMemory: the results of Row and Cols are the caller's own, with their spare capacity (P3, P5.2).
func TestTablesMemory(t *testing.T) {
	s := opened(t, sample())
	r, _ := s.Row(0, 0)
	again, _ := s.Row(0, 0)
	next, _ := s.Row(0, 1)
	cols, colsAgain, others := s.Cols(0), s.Cols(0), s.Cols(1)
	for i := range r[:cap(r)] {
		r[:cap(r)][i] = text("spoilt")
	}
	for i := range cols[:cap(cols)] {
		cols[:cap(cols)][i] = api.Column{Name: "spoilt"}
	}
	if want := sample()[0].Rows; !slices.Equal(again, want[0]) || !slices.Equal(next, want[1]) {
		t.Error("rows share memory:", again, next)
	}
	if want := sample(); !slices.Equal(colsAgain, want[0].Cols) || !slices.Equal(others, want[1].Cols) {
		t.Error("columns share memory:", colsAgain, others)
	}
	holds(t, s, sample())
}

// TestKeepMemory: what is kept is a copy, and so is what is told of it (P3, P5.3).
func TestKeepMemory(t *testing.T) {
	whole := []int{1, 2, 3, 4, 5, 6}
	rows := [][]int{whole[0:2], whole[2:4], {7}}[:2]
	s := opened(t, nil)
	s.Keep("k", rows)
	s.Keep("l", rows)
	if !slices.Equal(whole, []int{1, 2, 3, 4, 5, 6}) || rows[:3][2][0] != 7 {
		t.Error("the rows are changed")
	}
	for i := range whole {
		whole[i] = -1
	}
	rows[0], rows[1] = nil, nil
	want := [][]int{{1, 2}, {3, 4}}
	first, _ := s.Kept("k")
	second, _ := s.Kept("k")
	for i := range first {
		r := first[i][:cap(first[i])]
		for j := range r {
			r[j] = -2
		}
		if i == 0 && !slices.Equal(first[1], want[1]) {
			t.Error("two rows of one result share memory")
		}
	}
	for i := range first[:cap(first)] {
		first[:cap(first)][i] = nil
	}
	third, _ := s.Kept("k")
	other, _ := s.Kept("l")
	if !same(second, want) || !same(third, want) || !same(other, want) {
		t.Error("results share memory:", second, third, other)
	}
	s.Keep("k", [][]int{{8}})
	if !same(second, want) {
		t.Error("replacing changes what was told:", second)
	}
	list := s.Signs()
	for i := range list[:cap(list)] {
		list[:cap(list)][i] = "spoilt"
	}
	if l := s.Signs(); !slices.Equal(l, []string{"k", "l"}) {
		t.Error("Signs share memory:", l)
	}
}

// TestKeepOwn: what a store told can be kept again, under the same signature too (P5.3).
func TestKeepOwn(t *testing.T) {
	s, other := opened(t, nil), opened(t, nil)
	s.Keep("k", [][]int{{1}, {2}})
	rows, _ := s.Kept("k")
	s.Keep("k", rows[1:])
	other.Keep("k", rows)
	rows[1][0] = 9
	if r, _ := s.Kept("k"); !same(r, [][]int{{2}}) {
		t.Error(r)
	}
	if r, _ := other.Kept("k"); !same(r, [][]int{{1}, {2}}) {
		t.Error(r)
	}
}
