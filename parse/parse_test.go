package parse_test

import (
	"math"
	"slices"
	"strconv"
	"strings"
	"testing"

	"weathercock/api"
	"weathercock/parse"
)

// words are those of chapter 7.
const words = "select distinct from join left semi on where group by union all order desc and or not is null true false count sum min max"

// signs are those of chapter 7.
const signs = "<= >= <> < > = + - * / ( ) , ."

func name(s string) api.Expr {
	return api.Expr{Op: api.OpName, V: api.Value{Kind: api.Text, S: s}}
}

func of(table, s string) api.Expr {
	return api.Expr{Op: api.OpName, S: table, V: api.Value{Kind: api.Text, S: s}}
}

func value(v api.Value) api.Expr { return api.Expr{Op: api.OpConst, V: v} }

func num(n int) api.Expr { return value(api.Value{Kind: api.Int, N: n}) }

func text(s string) api.Expr { return value(api.Value{Kind: api.Text, S: s}) }

func param(n int) api.Expr { return api.Expr{Op: api.OpParam, N: n} }

func apply(op int, l ...api.Expr) api.Expr { return api.Expr{Op: op, L: l} }

var (
	null = value(api.Value{})
	yes  = value(api.Value{Kind: api.Bool, N: 1})
	no   = value(api.Value{Kind: api.Bool})
	a    = name("a")
	b    = name("b")
	c    = name("c")
	d    = name("d")
)

func item(e api.Expr) api.Item { return api.Item{E: e} }

func table(s string) api.From { return api.From{Table: s, Alias: s} }

func joined(s string, kind int, on api.Expr) api.From {
	return api.From{Table: s, Alias: s, Kind: kind, On: []api.Expr{on}}
}

// plain is SELECT a FROM t.
func plain() api.Select {
	return api.Select{Items: []api.Item{item(a)}, From: []api.From{table("t")}}
}

// query is selects without an ORDER BY.
func query(l ...api.Select) api.Query { return api.Query{Selects: l} }

func sameExpr(x, y api.Expr) bool {
	return x.Op == y.Op && x.V == y.V && x.Rel == y.Rel && x.Col == y.Col && x.N == y.N && x.S == y.S && slices.EqualFunc(x.L, y.L, sameExpr)
}

func sameSelect(x, y api.Select) bool {
	return x.Distinct == y.Distinct &&
		slices.EqualFunc(x.Items, y.Items, func(i, k api.Item) bool { return i.Agg == k.Agg && sameExpr(i.E, k.E) }) &&
		slices.EqualFunc(x.From, y.From, func(i, k api.From) bool {
			return i.Table == k.Table && i.Alias == k.Alias && i.Kind == k.Kind && slices.EqualFunc(i.On, k.On, sameExpr)
		}) &&
		slices.EqualFunc(x.Where, y.Where, sameExpr) && slices.EqualFunc(x.Group, y.Group, sameExpr)
}

// sameQuery compares all parts; an empty list may be nil.
func sameQuery(x, y api.Query) bool {
	return slices.EqualFunc(x.Selects, y.Selects, sameSelect) && slices.Equal(x.Order, y.Order)
}

// is checks that s denotes exactly this query.
func is(t *testing.T, s string, want api.Query) {
	t.Helper()
	q, e, at := parse.Parse(s)
	if e != api.OK || at != 0 || !sameQuery(q, want) {
		t.Errorf("%q: %+v, error %d at %d, want %+v", s, q, e, at, want)
	}
}

// isItem checks that s denotes this expression, wherever an expression may stand.
func isItem(t *testing.T, s string, want api.Expr) {
	t.Helper()
	is(t, "SELECT "+s+" FROM t", query(api.Select{Items: []api.Item{item(want)}, From: []api.From{table("t")}}))
	for i, word := range []string{"COUNT", "SUM", "MIN", "MAX"} {
		agg := []int{api.AggOf, api.AggSum, api.AggMin, api.AggMax}[i]
		is(t, "SELECT "+word+"("+s+") FROM t", query(api.Select{Items: []api.Item{{Agg: agg, E: want}}, From: []api.From{table("t")}}))
	}
	x := plain()
	x.From = []api.From{table("t"), joined("u", api.Inner, want), joined("v", api.Left, want), joined("w", api.Semi, want)}
	x.Where = []api.Expr{want}
	x.Group = []api.Expr{want, want}
	is(t, "SELECT a FROM t JOIN u ON "+s+" LEFT JOIN v ON "+s+" SEMI JOIN w ON "+s+" WHERE "+s+" GROUP BY "+s+", "+s, query(x))
}

// accepts checks that s is a query, whatever it denotes.
func accepts(t *testing.T, s string) {
	t.Helper()
	if q, e, at := parse.Parse(s); e != api.OK || at != 0 || len(q.Selects) == 0 {
		t.Errorf("%q: %+v, error %d at %d", s, q, e, at)
	}
}

// fails checks that s, without the ^ that marks the place, has that error there, and no query.
func fails(t *testing.T, s string, want api.Errno) {
	t.Helper()
	wantAt := strings.Index(s, "^")
	if strings.Count(s, "^") != 1 {
		t.Fatalf("%q does not mark one place", s)
	}
	s = strings.Replace(s, "^", "", 1)
	q, e, at := parse.Parse(s)
	if e != want || at != wantAt || len(q.Selects)+len(q.Order) > 0 {
		t.Errorf("%q: %+v, error %d at %d, want error %d at %d", s, q, e, at, want, wantAt)
	}
}

// TestExamples: P9.1 and P9.2, the chapter's examples.
func TestExamples(t *testing.T) {
	is(t, "SELECT a FROM t", query(plain()))
	fails(t, "SELECT ^FROM t", api.ErrSyntax)
	fails(t, "SELECT a FROM^", api.ErrSyntax)
}

// TestWhole: P9.2, a query with everything in it.
func TestWhole(t *testing.T) {
	first := api.Select{
		Distinct: true,
		Items: []api.Item{
			item(of("x", "a")), {Agg: api.AggCount}, {Agg: api.AggOf, E: b},
			{Agg: api.AggSum, E: apply(api.OpAdd, apply(api.OpNeg, of("x", "b")), apply(api.OpMul, num(1), num(2)))},
			{Agg: api.AggMin, E: text("it's")}, {Agg: api.AggMax, E: param(4)},
		},
		From: []api.From{
			{Table: "t", Alias: "x"}, {Table: "u", Alias: "u"},
			{Table: "v", Alias: "v_1", On: []api.Expr{apply(api.OpEq, of("x", "a"), of("v_1", "a"))}},
			{Table: "w", Alias: "w", Kind: api.Left, On: []api.Expr{yes}},
			{Table: "z", Alias: "y", Kind: api.Semi, On: []api.Expr{null}},
		},
		Where: []api.Expr{apply(api.OpOr, apply(api.OpNot, apply(api.OpNot, apply(api.OpIs, a))), apply(api.OpAnd, apply(api.OpLt, b, num(1)), c))},
		Group: []api.Expr{a, apply(api.OpSub, b, num(3))},
	}
	second := api.Select{Items: []api.Item{item(text("x"))}, From: []api.From{table("t")}}
	is(t, "Select DISTINCT X.a, count ( * ), Count(b), SUM(-x.B + 1 * 2), mIn('it''s'), MAX($4)\n"+
		"FROM t x, u JOIN v V_1 ON x.a = v_1.a LEFT JOIN w ON TRUE SEMI JOIN z y ON NULL\r\n"+
		"\tWHERE NOT a IS NOT NULL OR b < 1 AND c GROUP BY a, b-3 UNION ALL SELECT 'x' FROM t ORDER BY 1 DESC, 02",
		api.Query{Selects: []api.Select{first, second}, Order: []api.Key{{Desc: true}, {Col: 1}}})
}

// TestAtoms: P9.2, what an expression is without operations.
func TestAtoms(t *testing.T) {
	for _, x := range []struct {
		s    string
		want api.Expr
	}{
		{"0", num(0)}, {"1", num(1)}, {"007", num(7)}, {"9223372036854775807", num(math.MaxInt)},
		{"''", text("")}, {"'a'", text("a")}, {"'it''s'", text("it's")}, {"'SELECT'", text("SELECT")}, {"'é\n\xff'", text("é\n\xff")}, {"'*'", text("*")}, {"'('", text("(")}, {"'null'", text("null")},
		{"'" + strings.Repeat("b", 40) + "'", text(strings.Repeat("b", 40))},
		{"$1", param(1)}, {"$4", param(4)}, {"$002", param(2)},
		{"TRUE", yes}, {"true", yes}, {"FALSE", no}, {"fAlse", no}, {"NULL", null}, {"null", null},
		{"a", a}, {"A", a}, {"Abc_9", name("abc_9")}, {"avg", name("avg")}, {"asc", name("asc")}, {"t.a", of("t", "a")}, {"T . A", of("t", "a")}, {"t\n.\ta", of("t", "a")}, {"a.a", of("a", "a")},
		{strings.Repeat("q", 20) + "." + strings.Repeat("R", 20), of(strings.Repeat("q", 20), strings.Repeat("r", 20))},
		{"(a)", a}, {"((a))", a}, {"( t.a )", of("t", "a")}, {"(1)", num(1)}, {"(('x'))", text("x")}, {"(NULL)", null}, {"((((((((((a))))))))))", a},
	} {
		isItem(t, x.s, x.want)
	}
}

// TestOperations: P9.2, what each operation becomes.
func TestOperations(t *testing.T) {
	for i, s := range []string{"+", "-", "*", "/", "=", "<>", "<", "<=", ">", ">=", "AND", "OR"} {
		op := []int{api.OpAdd, api.OpSub, api.OpMul, api.OpDiv, api.OpEq, api.OpNe, api.OpLt, api.OpLe, api.OpGt, api.OpGe, api.OpAnd, api.OpOr}[i]
		isItem(t, "a "+s+" b", apply(op, a, b))
		isItem(t, "b "+strings.ToLower(s)+" a", apply(op, b, a))
		isItem(t, "(a)"+s+"(b)", apply(op, a, b))
		isItem(t, "(a "+s+" b)", apply(op, a, b))
		isItem(t, "'"+s+"' "+s+" NULL", apply(op, text(s), null))
		isItem(t, "$1 "+s+" t.a", apply(op, param(1), of("t", "a")))
		isItem(t, "a "+s+" -b", apply(op, a, apply(api.OpNeg, b)))
		isItem(t, "-a "+s+" b", apply(op, apply(api.OpNeg, a), b))
	}
	isItem(t, "-a", apply(api.OpNeg, a))
	isItem(t, "-5", apply(api.OpNeg, num(5)))
	isItem(t, "-9223372036854775807", apply(api.OpNeg, num(math.MaxInt)))
	isItem(t, "- -a", apply(api.OpNeg, apply(api.OpNeg, a)))
	isItem(t, "--a", apply(api.OpNeg, apply(api.OpNeg, a)))
	isItem(t, "---1", apply(api.OpNeg, apply(api.OpNeg, apply(api.OpNeg, num(1)))))
	isItem(t, "-'x'", apply(api.OpNeg, text("x")))
	isItem(t, "-(-(a))", apply(api.OpNeg, apply(api.OpNeg, a)))
	isItem(t, "NOT a", apply(api.OpNot, a))
	isItem(t, "not Not NOT a", apply(api.OpNot, apply(api.OpNot, apply(api.OpNot, a))))
	isItem(t, "NOT(a)", apply(api.OpNot, a))
	isItem(t, "a IS NULL", apply(api.OpIs, a))
	isItem(t, "a is not null", apply(api.OpNot, apply(api.OpIs, a)))
	isItem(t, "NULL IS NULL", apply(api.OpIs, null))
	isItem(t, "(a IS NULL) IS NOT NULL", apply(api.OpNot, apply(api.OpIs, apply(api.OpIs, a))))
	isItem(t, "(a = b) = c", apply(api.OpEq, apply(api.OpEq, a, b), c))
	isItem(t, "a = (b = c)", apply(api.OpEq, a, apply(api.OpEq, b, c)))
}

// TestAssociation: P9.2, the leftmost one of a sequence is applied first, unless parentheses say otherwise.
func TestAssociation(t *testing.T) {
	levels := [][]string{{"OR"}, {"AND"}, {"+", "-"}, {"*", "/"}}
	ops := map[string]int{"OR": api.OpOr, "AND": api.OpAnd, "+": api.OpAdd, "-": api.OpSub, "*": api.OpMul, "/": api.OpDiv}
	for _, l := range levels {
		for _, x := range l {
			for _, y := range l {
				isItem(t, "a "+x+" b "+y+" c", apply(ops[y], apply(ops[x], a, b), c))
				isItem(t, "(a "+x+" b) "+y+" c", apply(ops[y], apply(ops[x], a, b), c))
				isItem(t, "a "+x+" (b "+y+" c)", apply(ops[x], a, apply(ops[y], b, c)))
				isItem(t, "a "+x+" b "+y+" c "+x+" d", apply(ops[x], apply(ops[y], apply(ops[x], a, b), c), d))
				isItem(t, "(a "+x+" b) "+y+" (c "+x+" d)", apply(ops[y], apply(ops[x], a, b), apply(ops[x], c, d)))
			}
		}
	}
	for _, x := range []string{"OR", "AND", "+", "-", "*", "/"} {
		want := num(0)
		s := "0"
		for i := 1; i < 100; i++ {
			want = apply(ops[x], want, num(i))
			s += " " + x + " " + strconv.Itoa(i)
		}
		is(t, "SELECT "+s+" FROM t", query(api.Select{Items: []api.Item{item(want)}, From: []api.From{table("t")}}))
	}
}

// TestPrecedence: P9.2, which of two operations takes its operands first.
func TestPrecedence(t *testing.T) {
	levels := [][]string{{"OR"}, {"AND"}, {"=", "<>", "<", "<=", ">", ">="}, {"+", "-"}, {"*", "/"}}
	ops := map[string]int{"OR": api.OpOr, "AND": api.OpAnd, "=": api.OpEq, "<>": api.OpNe, "<": api.OpLt, "<=": api.OpLe, ">": api.OpGt, ">=": api.OpGe, "+": api.OpAdd, "-": api.OpSub, "*": api.OpMul, "/": api.OpDiv}
	for i, low := range levels {
		for _, high := range levels[i+1:] {
			for _, x := range low {
				for _, y := range high {
					isItem(t, "a "+x+" b "+y+" c", apply(ops[x], a, apply(ops[y], b, c)))
					isItem(t, "a "+y+" b "+x+" c", apply(ops[x], apply(ops[y], a, b), c))
					isItem(t, "a "+y+" b "+x+" c "+y+" d", apply(ops[x], apply(ops[y], a, b), apply(ops[y], c, d)))
					isItem(t, "(a "+x+" b) "+y+" c", apply(ops[y], apply(ops[x], a, b), c))
					isItem(t, "a "+y+" (b "+x+" c)", apply(ops[y], a, apply(ops[x], b, c)))
				}
			}
		}
	}
	for _, x := range []string{"+", "-", "*", "/"} {
		isItem(t, "a "+x+" b IS NULL", apply(api.OpIs, apply(ops[x], a, b)))
		isItem(t, "- a "+x+" - b", apply(ops[x], apply(api.OpNeg, a), apply(api.OpNeg, b)))
		isItem(t, "-(a "+x+" b)", apply(api.OpNeg, apply(ops[x], a, b)))
	}
	for _, x := range []string{"=", "<>", "<", "<=", ">", ">="} {
		isItem(t, "NOT a "+x+" b", apply(api.OpNot, apply(ops[x], a, b)))
		isItem(t, "(NOT a) "+x+" b", apply(ops[x], apply(api.OpNot, a), b))
		isItem(t, "a "+x+" (NOT b)", apply(ops[x], a, apply(api.OpNot, b)))
	}
	for _, x := range []string{"AND", "OR"} {
		isItem(t, "NOT a "+x+" b", apply(ops[x], apply(api.OpNot, a), b))
		isItem(t, "a "+x+" NOT b", apply(ops[x], a, apply(api.OpNot, b)))
		isItem(t, "NOT (a "+x+" b)", apply(api.OpNot, apply(ops[x], a, b)))
		isItem(t, "a IS NULL "+x+" b IS NOT NULL", apply(ops[x], apply(api.OpIs, a), apply(api.OpNot, apply(api.OpIs, b))))
	}
	isItem(t, "NOT a IS NULL", apply(api.OpNot, apply(api.OpIs, a)))
	isItem(t, "(NOT a) IS NULL", apply(api.OpIs, apply(api.OpNot, a)))
	isItem(t, "NOT a IS NOT NULL", apply(api.OpNot, apply(api.OpNot, apply(api.OpIs, a))))
	isItem(t, "-a IS NULL", apply(api.OpIs, apply(api.OpNeg, a)))
	isItem(t, "a OR b AND c OR d", apply(api.OpOr, apply(api.OpOr, a, apply(api.OpAnd, b, c)), d))
	isItem(t, "(a OR b) AND (c OR d)", apply(api.OpAnd, apply(api.OpOr, a, b), apply(api.OpOr, c, d)))
	isItem(t, "a - b * c - d", apply(api.OpSub, apply(api.OpSub, a, apply(api.OpMul, b, c)), d))
}

// TestItems: P9.2, items of all sorts, in their order.
func TestItems(t *testing.T) {
	s := plain()
	for _, x := range []struct {
		s    string
		want api.Item
	}{
		{"COUNT(*)", api.Item{Agg: api.AggCount}}, {"count ( * )", api.Item{Agg: api.AggCount}},
		{"COUNT(a)", api.Item{Agg: api.AggOf, E: a}}, {"COUNT((a))", api.Item{Agg: api.AggOf, E: a}}, {"COUNT('*')", api.Item{Agg: api.AggOf, E: text("*")}},
		{"Sum(a)", api.Item{Agg: api.AggSum, E: a}}, {"MIN(t.a)", api.Item{Agg: api.AggMin, E: of("t", "a")}}, {"mAX(1)", api.Item{Agg: api.AggMax, E: num(1)}},
		{"SUM(a OR b)", api.Item{Agg: api.AggSum, E: apply(api.OpOr, a, b)}}, {"(a)", item(a)}, {"a", item(a)},
	} {
		s.Items = []api.Item{x.want}
		is(t, "SELECT "+x.s+" FROM t", query(s))
		s.Distinct = true
		s.Items = []api.Item{item(b), x.want, x.want, item(c)}
		is(t, "SELECT DISTINCT b, "+x.s+","+x.s+" ,c FROM t", query(s))
		s.Distinct = false
	}
}

// TestFrom: P9.2, tables, what they are called, and how they come in.
func TestFrom(t *testing.T) {
	on := apply(api.OpEq, a, b)
	for _, x := range []struct {
		s    string
		want []api.From
	}{
		{"t", []api.From{table("t")}}, {"T", []api.From{table("t")}}, {"t x", []api.From{{Table: "t", Alias: "x"}}}, {"t t", []api.From{table("t")}}, {"Ta TB", []api.From{{Table: "ta", Alias: "tb"}}},
		{"t, u", []api.From{table("t"), table("u")}},
		{"t x,u y , v", []api.From{{Table: "t", Alias: "x"}, {Table: "u", Alias: "y"}, table("v")}},
		{"t, t, t, t", []api.From{table("t"), table("t"), table("t"), table("t")}},
		{"t JOIN u ON a = b", []api.From{table("t"), joined("u", api.Inner, on)}},
		{"t x join u y on a = b", []api.From{{Table: "t", Alias: "x"}, {Table: "u", Alias: "y", On: []api.Expr{on}}}},
		{"t LEFT JOIN u ON a = b", []api.From{table("t"), joined("u", api.Left, on)}},
		{"t x LEFT JOIN u y ON a = b", []api.From{{Table: "t", Alias: "x"}, {Table: "u", Alias: "y", Kind: api.Left, On: []api.Expr{on}}}},
		{"t semi join u on a = b", []api.From{table("t"), joined("u", api.Semi, on)}},
		{"t SEMI JOIN u y ON a = b", []api.From{table("t"), {Table: "u", Alias: "y", Kind: api.Semi, On: []api.Expr{on}}}},
		{"t, u JOIN v ON a, w", []api.From{table("t"), table("u"), joined("v", api.Inner, a), table("w")}},
		{"t JOIN u ON a JOIN v ON b JOIN w ON c", []api.From{table("t"), joined("u", api.Inner, a), joined("v", api.Inner, b), joined("w", api.Inner, c)}},
		{"t LEFT JOIN u ON a SEMI JOIN v ON b", []api.From{table("t"), joined("u", api.Left, a), joined("v", api.Semi, b)}},
		{"t SEMI JOIN u ON a LEFT JOIN v ON b", []api.From{table("t"), joined("u", api.Semi, a), joined("v", api.Left, b)}},
		{"t LEFT JOIN u ON a LEFT JOIN v ON b", []api.From{table("t"), joined("u", api.Left, a), joined("v", api.Left, b)}},
		{"t SEMI JOIN u ON a SEMI JOIN v ON b", []api.From{table("t"), joined("u", api.Semi, a), joined("v", api.Semi, b)}},
		{"t, u, v JOIN w ON a LEFT JOIN x ON b SEMI JOIN y ON c", []api.From{table("t"), table("u"), table("v"), joined("w", api.Inner, a), joined("x", api.Left, b), joined("y", api.Semi, c)}},
	} {
		s := plain()
		s.From = x.want
		is(t, "SELECT a FROM "+x.s, query(s))
		s.Where, s.Group = []api.Expr{c}, []api.Expr{d}
		is(t, "SELECT a FROM "+x.s+" WHERE c GROUP BY d", query(s))
	}
}

// TestWhereGroup: P9.2, either, both or neither of them.
func TestWhereGroup(t *testing.T) {
	s := plain()
	s.Group = []api.Expr{a}
	is(t, "SELECT a FROM t GROUP BY a", query(s))
	s.Where = []api.Expr{apply(api.OpGt, b, num(1))}
	is(t, "SELECT a FROM t WHERE b > 1 GROUP BY a", query(s))
	s.Group = nil
	is(t, "SELECT a FROM t WHERE b > 1", query(s))
	s.Group = []api.Expr{b, apply(api.OpOr, a, b), a, of("t", "a"), num(1), b, b, b}
	is(t, "SELECT a FROM t WHERE b > 1 GROUP BY b, a OR b, a, t.a, 1, b, b, b", query(s))
}

// TestUnion: P9.2, selects in their order, each with what is its own.
func TestUnion(t *testing.T) {
	var l []api.Select
	for i, s := range []string{
		"SELECT 0 FROM a", "SELECT 0 FROM a union all SELECT DISTINCT 1 FROM b x",
		"SELECT 0 FROM a union all SELECT DISTINCT 1 FROM b x UNION ALL SELECT 2, 2 FROM c, c WHERE c",
		"SELECT 0 FROM a union all SELECT DISTINCT 1 FROM b x UNION ALL SELECT 2, 2 FROM c, c WHERE c Union All SELECT 3 FROM d GROUP BY d",
	} {
		l = append(l, []api.Select{
			{Items: []api.Item{item(num(0))}, From: []api.From{table("a")}},
			{Distinct: true, Items: []api.Item{item(num(1))}, From: []api.From{{Table: "b", Alias: "x"}}},
			{Items: []api.Item{item(num(2)), item(num(2))}, From: []api.From{table("c"), table("c")}, Where: []api.Expr{c}},
			{Items: []api.Item{item(num(3))}, From: []api.From{table("d")}, Group: []api.Expr{d}},
		}[i])
		is(t, s, query(l...))
		is(t, s+" ORDER BY 2", api.Query{Selects: l, Order: []api.Key{{Col: 1}}})
	}
}

// TestOrder: P9.2, the numbers minus 1, and which way.
func TestOrder(t *testing.T) {
	for _, x := range []struct {
		s    string
		want []api.Key
	}{
		{"1", []api.Key{{}}}, {"1 DESC", []api.Key{{Desc: true}}}, {"2, 1 desc", []api.Key{{Col: 1}, {Desc: true}}},
		{"1 Desc,1,1 DESC", []api.Key{{Desc: true}, {}, {Desc: true}}}, {"0", []api.Key{{Col: -1}}}, {"0 DESC", []api.Key{{Col: -1, Desc: true}}},
		{"9223372036854775807", []api.Key{{Col: math.MaxInt - 1}}}, {"007", []api.Key{{Col: 6}}},
		{"1,2,3,4,5,6,7,8", []api.Key{{}, {Col: 1}, {Col: 2}, {Col: 3}, {Col: 4}, {Col: 5}, {Col: 6}, {Col: 7}}},
	} {
		is(t, "SELECT a FROM t ORDER BY "+x.s, api.Query{Selects: []api.Select{plain()}, Order: x.want})
	}
}

// TestCases: P9.2, words and names in upper or lower case, whatever is between them.
func TestCases(t *testing.T) {
	s := "SELECT DISTINCT A, SUM(B) FROM T X JOIN U ON TRUE LEFT JOIN V ON NOT FALSE SEMI JOIN W ON NULL IS NULL WHERE A OR B AND C GROUP BY D UNION ALL SELECT COUNT(*), MIN(A), MAX(B) FROM T ORDER BY 1 DESC"
	want, e, _ := parse.Parse(s)
	if e != api.OK {
		t.Fatal(e)
	}
	mixed := []byte(s)
	for i := range mixed {
		if i%2 == 0 {
			mixed[i] = strings.ToLower(s)[i]
		}
	}
	for _, x := range []string{s, strings.ToLower(s), string(mixed)} {
		is(t, x, want)
		is(t, " \t\r\n"+strings.ReplaceAll(x, " ", "\n\t \r")+"\n", want)
	}
}

// TestSyntax: P9.1, the first token that is not permitted.
func TestSyntax(t *testing.T) {
	for _, s := range []string{
		"^", " ^", "\n\t ^", "^a", "^1", "^FROM t", "^(SELECT a FROM t)", "^, SELECT a FROM t", "SELECT^", "SELECT  ^", "SELECT ^SELECT a FROM t", "SELECT ^, a FROM t", "SELECT ^* FROM t",
		"SELECT DISTINCT^", "SELECT DISTINCT ^DISTINCT a FROM t", "SELECT DISTINCT ^FROM t", "SELECT ^ALL a FROM t", "SELECT a ^DISTINCT FROM t",
		"SELECT a^", "SELECT a  ^", "SELECT a,^", "SELECT a, ^FROM t", "SELECT a,^, b FROM t", "SELECT a ^b FROM t", "SELECT a ^'b' FROM t", "SELECT a ^1 FROM t", "SELECT 1^a FROM t", "SELECT a ^$1 FROM t", "SELECT a ^t FROM t",
		"SELECT a FROM^", "SELECT a FROM   ^", "SELECT a FROM ^FROM t", "SELECT a FROM ^WHERE b", "SELECT a FROM ^1", "SELECT a FROM ^'t'", "SELECT a FROM ^$1", "SELECT a FROM ^(t)", "SELECT a FROM ^, t", "SELECT a FROM ^JOIN t ON b",
		"SELECT a FROM ^LEFT JOIN t ON b", "SELECT a FROM t x ^y", "SELECT a FROM t ^1", "SELECT a FROM t ^'x'", "SELECT a FROM t^.x", "SELECT a FROM t ^(", "SELECT a FROM t ^)", "SELECT a FROM t ^ON b", "SELECT a FROM t ^FROM u", "SELECT a FROM t ^SELECT a FROM t",
		"SELECT a FROM t ^AND b", "SELECT a FROM t ^DESC", "SELECT a FROM t ^BY 1", "SELECT a FROM t ^ALL", "SELECT a FROM t ^= b",
		"SELECT a FROM t,^", "SELECT a FROM t, ^", "SELECT a FROM t, ^JOIN u ON b", "SELECT a FROM t,^, u", "SELECT a FROM t, ^(u)", "SELECT a FROM t, u ^ON b", "SELECT a FROM t, ^WHERE b", "SELECT a FROM t, ^LEFT JOIN u ON b",
		"SELECT a FROM t JOIN^", "SELECT a FROM t JOIN ^ON b", "SELECT a FROM t JOIN ^1 ON b", "SELECT a FROM t JOIN u^", "SELECT a FROM t JOIN u ^, v", "SELECT a FROM t JOIN u x ^y ON b", "SELECT a FROM t JOIN u ^WHERE b", "SELECT a FROM t JOIN u ^JOIN v ON b ON c",
		"SELECT a FROM t JOIN u ON^", "SELECT a FROM t JOIN u ON ^WHERE b", "SELECT a FROM t JOIN u ON ^COUNT(*)", "SELECT a FROM t JOIN u ON b ^c", "SELECT a FROM t JOIN u ON b ^ON c", "SELECT a FROM t JOIN u ON ^, v", "SELECT a FROM t inner ^INNER JOIN u ON b",
		"SELECT a FROM t LEFT^", "SELECT a FROM t LEFT ^u ON b", "SELECT a FROM t LEFT ^LEFT JOIN u ON b", "SELECT a FROM t LEFT ^SEMI JOIN u ON b", "SELECT a FROM t LEFT JOIN^", "SELECT a FROM t LEFT JOIN u^", "SELECT a FROM t LEFT JOIN u ^, v", "SELECT a FROM t LEFT JOIN u ON^",
		"SELECT a FROM t SEMI^", "SELECT a FROM t SEMI ^ON b", "SELECT a FROM t SEMI JOIN^", "SELECT a FROM t SEMI JOIN ^SEMI", "SELECT a FROM t SEMI JOIN u^", "SELECT a FROM t SEMI JOIN u ^LEFT JOIN v ON b", "SELECT a FROM t SEMI JOIN u ON^",
		"SELECT a FROM t LEFT JOIN u ON b^, v", "SELECT a FROM t LEFT JOIN u ON b ^JOIN v ON c", "SELECT a FROM t SEMI JOIN u ON b^, v", "SELECT a FROM t SEMI JOIN u ON b ^JOIN v ON c", "SELECT a FROM t, v LEFT JOIN u ON b SEMI JOIN u ON b ^JOIN v ON c",
		"SELECT a FROM t WHERE^", "SELECT a FROM t WHERE ^GROUP BY b", "SELECT a FROM t WHERE b ^WHERE c", "SELECT a FROM t WHERE b ^c", "SELECT a FROM t WHERE b^, c", "SELECT a FROM t WHERE ^COUNT(*) > 1", "SELECT a FROM t WHERE b > ^MAX(c)", "SELECT a FROM t WHERE b ^JOIN u ON c", "SELECT a FROM t WHERE b ^LEFT JOIN u ON c", "SELECT a FROM t WHERE ^WHERE",
		"SELECT a FROM t GROUP^", "SELECT a FROM t GROUP ^b", "SELECT a FROM t GROUP BY^", "SELECT a FROM t GROUP BY ^ORDER BY 1", "SELECT a FROM t GROUP BY b ^WHERE c", "SELECT a FROM t GROUP BY b,^", "SELECT a FROM t GROUP BY b, ^ORDER BY 1", "SELECT a FROM t GROUP BY b,^, c", "SELECT a FROM t GROUP BY b ^GROUP BY c", "SELECT a FROM t GROUP BY ^SUM(b)", "SELECT a FROM t GROUP BY b ^DESC", "SELECT a FROM t GROUP BY b ^having c",
		"SELECT a FROM t UNION^", "SELECT a FROM t UNION ^SELECT a FROM t", "SELECT a FROM t UNION ^UNION ALL", "SELECT a FROM t UNION ALL^", "SELECT a FROM t UNION ALL ^ALL", "SELECT a FROM t UNION ALL ^a", "SELECT a FROM t UNION ALL ^(SELECT a FROM t)", "SELECT a FROM t UNION ALL ^ORDER BY 1", "SELECT a FROM t UNION ALL SELECT^", "SELECT a FROM t UNION ALL SELECT a^", "SELECT a FROM t UNION ALL SELECT a FROM t UNION ALL ^UNION", "SELECT a ^UNION ALL SELECT a FROM t",
		"SELECT a FROM t ORDER^", "SELECT a FROM t ORDER ^1", "SELECT a FROM t ORDER BY^", "SELECT a FROM t ORDER BY ^a", "SELECT a FROM t ORDER BY ^'1'", "SELECT a FROM t ORDER BY ^$1", "SELECT a FROM t ORDER BY ^-1", "SELECT a FROM t ORDER BY ^(1)", "SELECT a FROM t ORDER BY ^DESC", "SELECT a FROM t ORDER BY 1,^", "SELECT a FROM t ORDER BY 1, ^DESC", "SELECT a FROM t ORDER BY 1,^, 2",
		"SELECT a FROM t ORDER BY 1 ^2", "SELECT a FROM t ORDER BY 1 ^asc", "SELECT a FROM t ORDER BY 1^+1", "SELECT a FROM t ORDER BY 1^.5", "SELECT a FROM t ORDER BY 1 DESC ^DESC", "SELECT a FROM t ORDER BY 1 ^ORDER BY 1", "SELECT a FROM t ORDER BY 1 ^UNION ALL SELECT a FROM t", "SELECT a FROM t ORDER BY 1 ^WHERE b", "SELECT a FROM t ORDER BY 1 DESC ^a", "SELECT a FROM t ORDER BY 1 ^)",
		"SELECT a FROM t UNION ALL SELECT a FROM t ORDER BY 1, 2 ^a", "SELECT a FROM t ^)", "SELECT a^) FROM t", "SELECT a FROM t WHERE b^)", "SELECT a ^WHERE b", "SELECT a ^GROUP BY b", "SELECT a ^ORDER BY 1",
	} {
		fails(t, s, api.ErrSyntax)
	}
}

// TestSyntaxExpressions: P9.1, the first token that is not permitted within an expression, wherever it stands.
func TestSyntaxExpressions(t *testing.T) {
	for _, s := range []string{
		"a = b ^= c", "a < b ^< c", "a <= b ^>= c", "a <> b ^IS NULL", "a IS NULL ^IS NULL", "a IS NULL ^= b", "a IS NOT NULL ^< b", "a IS NULL ^+ b", "a IS ^TRUE", "a IS ^a", "a IS NOT ^NOT NULL", "a IS NOT ^TRUE", "a IS ^(NULL)",
		"a = ^NOT b", "a + ^NOT b", "- ^NOT a", "a AND ^AND b", "a AND ^OR b", "a OR ^OR b", "^AND a", "^OR a", "NOT ^AND a", "NOT ^= a", "a ^NOT b", "a AND NOT ^OR b", "a ^NOT = b",
		"^= a", "^+ a", "^+a", "a + ^+ b", "a * ^* b", "a * ^/ b", "a + ^* b", "a - ^/ b", "^* a", "^/ a", "- ^* a", "a = ^= b", "a < ^= b", "a = ^< b", "a < ^> b", "a > ^< b",
		"^. a", "a.^1", "a.^'b'", "a.^.b", "a.^(b)", "a.^*", "a.^from", "a.^count", "a.^null", "a.b^.c", "1^.a", "'x'^.a", "$1^.a", "true^.a", "null^.a", "(a)^.b",
		"(^)", "(^) + a", "(^= a)", "(a^, b)", "(a ^b)", "(a ^1)", "(a) ^b", "(a) ^(b)", "((a) ^b)", "(^, a)", "(^FROM", "(a ^FROM", "(^SELECT a FROM t)", "(^*)", "(^COUNT(*))", "(a = b ^= c)", "(a.^)",
		"a ^(b)", "abs^(a)", "1 ^a", "1 ^1", "'a' ^'b'", "'a''b' ^'c'", "$1 ^$2", "true ^false", "null ^null", "a ^true", "a ^null", "not ^is null", "^is null", "^is",
		"a + ^COUNT(*)", "a AND ^SUM(b)", "- ^MIN(a)", "NOT ^MAX(a)", "a ^COUNT(*)", "a + (^SUM(b))",
		"^by", "^on", "^all", "^desc", "a + ^select", "a + ^distinct", "^join", "a = ^left", "a ^all", "a ^desc", "a ^by",
	} {
		// What an expression may be followed by where it stands does not matter: the token is permitted nowhere there.
		fails(t, "SELECT "+s+" FROM t", api.ErrSyntax)
		fails(t, "SELECT MIN("+s+") FROM t", api.ErrSyntax)
		fails(t, "SELECT a FROM t LEFT JOIN u ON "+s, api.ErrSyntax)
		fails(t, "SELECT 'x' FROM t WHERE NOT a = (b) AND "+s+" GROUP BY c", api.ErrSyntax)
	}
	for _, s := range []string{"", "NOT", "a OR", "a AND", "a =", "a <>", "a <", "a <=", "a >", "a >=", "a +", "a -", "a *", "a /", "-", "- -", "a.", "a IS", "a IS NOT", "(", "(a", "((a)", "(a.b", "a AND (b", "NOT NOT", "a = -", "(a IS NULL"} {
		fails(t, "SELECT "+s+"^", api.ErrSyntax)
		fails(t, "SELECT "+s+" \n^", api.ErrSyntax)
		fails(t, "SELECT SUM("+s+"^", api.ErrSyntax)
		fails(t, "SELECT a FROM t WHERE "+s+"  ^", api.ErrSyntax)
		fails(t, "SELECT a FROM t GROUP BY b, "+s+"^", api.ErrSyntax)
		fails(t, "SELECT a FROM t JOIN u ON "+s+"^", api.ErrSyntax)
		if s != "(a" && s != "((a)" && s != "(a.b" && s != "a AND (b" && s != "(a IS NULL" {
			fails(t, "SELECT "+s+" ^FROM t", api.ErrSyntax)
			fails(t, "SELECT ("+s+" ^) FROM t", api.ErrSyntax)
			fails(t, "SELECT a FROM t WHERE "+s+" ^UNION ALL SELECT a FROM t", api.ErrSyntax)
		}
	}
}

// TestSyntaxAggregates: P9.1, what an aggregate must be.
func TestSyntaxAggregates(t *testing.T) {
	for _, w := range []string{"COUNT", "sum", "Min", "MAX"} {
		for _, s := range []string{" ^FROM t", " ^a FROM t", "^.a FROM t", " ^= a FROM t", "^, a FROM t", "^", "(^", "(^) FROM t", "(^, a) FROM t", "(a^, b) FROM t", "(a ^FROM t", "(a^", "(^DISTINCT a) FROM t", "(^COUNT(*)) FROM t", "(^SUM(a)) FROM t", "(a) ^+ 1 FROM t", "(a) ^= 1 FROM t", "(a) ^IS NULL FROM t", "(a) ^AND b FROM t", "(a) ^b FROM t", "(a)^(b) FROM t", "(a)^) FROM t", "(a)^", "(a ^b) FROM t", " ^'(' a) FROM t"} {
			fails(t, "SELECT "+w+s, api.ErrSyntax)
			fails(t, "SELECT a, "+w+s, api.ErrSyntax)
		}
		fails(t, "SELECT a FROM "+"^"+w, api.ErrSyntax)
		fails(t, "SELECT a FROM t ^"+w, api.ErrSyntax)
		fails(t, "SELECT (^"+w+"(a)) FROM t", api.ErrSyntax)
	}
	for _, s := range []string{"(*^", "(* ^FROM t", "(*^, a) FROM t", "(*^*) FROM t", "(* ^a) FROM t", "(* ^+ 1) FROM t", "(*) ^+ 1 FROM t", "(*) ^b FROM t", "(*)^", "(t.^*) FROM t", "(a * ^) FROM t", "((^*)) FROM t", "(-^*) FROM t", "(*)^) FROM t"} {
		fails(t, "SELECT COUNT"+s, api.ErrSyntax)
	}
	for _, w := range []string{"SUM", "MIN", "MAX"} {
		fails(t, "SELECT "+w+"(^*) FROM t", api.ErrSyntax)
	}
}

// TestWords: P9.1, no word is a name, no text is a word or a sign, and no name is one.
func TestWords(t *testing.T) {
	for _, w := range strings.Fields(words) {
		fails(t, "SELECT a FROM ^"+w, api.ErrSyntax)
		fails(t, "SELECT a FROM t, ^"+strings.ToUpper(w), api.ErrSyntax)
		fails(t, "SELECT t.^"+w+" FROM t", api.ErrSyntax)
		fails(t, "SELECT a FROM t ORDER BY ^"+w, api.ErrSyntax)
		fails(t, "SELECT a ^'"+w+"' FROM t", api.ErrSyntax)
		fails(t, "SELECT a FROM t ^'"+w+"'", api.ErrSyntax)
		is(t, "SELECT a FROM "+w+"_ "+w+"1", query(api.Select{Items: []api.Item{item(a)}, From: []api.From{{Table: w + "_", Alias: w + "1"}}}))
		isItem(t, w+"_."+w+"1", of(w+"_", w+"1"))
		isItem(t, "'"+w+"'", text(w))
		if w != "select" {
			fails(t, "^"+w, api.ErrSyntax)
		}
	}
	for _, s := range strings.Fields(signs) {
		fails(t, "SELECT a ^'"+s+"' b FROM t", api.ErrSyntax)
		fails(t, "SELECT MIN ^'"+s+"' b FROM t", api.ErrSyntax)
		fails(t, "SELECT a FROM t ^'"+s+"' u", api.ErrSyntax)
		fails(t, "^"+s, api.ErrSyntax)
		isItem(t, "'"+s+"'", text(s))
	}
	fails(t, "^'select' a FROM t", api.ErrSyntax)
}

// TestLex: P9.1, an error of Lex comes before all others, wherever it is.
func TestLex(t *testing.T) {
	for _, s := range []string{"^;", "SELECT a FROM t ^;", "SELECT FROM t ^;", "FROM FROM ^!", "SELECT a, , ^$ FROM t", "SELECT a FROM t WHERE b = 'x^", "FROM 'x^", "SELECT a FROM t ORDER BY 1 ^_", "SELECT 1,1,1,1,1,1,1,1,1 ^#", "SELECT " + strings.Repeat("(", 61) + "^?", "SELECT ^\"a\" FROM t"} {
		fails(t, s, api.ErrLex)
	}
	for _, s := range []string{"^$5", "SELECT FROM ^$0", "FROM ^" + strings.Repeat("a", 21), "SELECT , ^9223372036854775808", "SELECT a FROM t ^" + strings.Repeat("b", 21) + " ;", "FROM ^'" + strings.Repeat("b", 41) + "'", "^" + strings.Repeat(" ", 2001), "^SELECT a FROM t" + strings.Repeat(" ", 1986), strings.Repeat("+", 400) + " ^a"} {
		fails(t, s, api.ErrLong)
	}
	accepts(t, "SELECT a FROM t"+strings.Repeat(" ", 1985))
	fails(t, "SELECT a FROM ^"+strings.Repeat("+", 397), api.ErrSyntax)
	fails(t, "SELECT a FROM "+strings.Repeat("+", 397)+" ^+", api.ErrLong)
}

// commas is s n times, with commas between.
func commas(n int, s string) string { return strings.TrimSuffix(strings.Repeat(s+", ", n), ", ") }

// TestManySelects: P9.1, 4 selects, and one more.
func TestManySelects(t *testing.T) {
	s := "SELECT a FROM t WHERE b GROUP BY c"
	four := strings.Repeat(s+" UNION ALL ", 3) + s
	accepts(t, four)
	accepts(t, four+" ORDER BY 1")
	for _, rest := range []string{"SELECT a FROM t", "SELECT", "SELECT ,", "select a FROM t UNION ALL SELECT a FROM t", "SELECT SELECT"} {
		fails(t, four+" UNION ALL ^"+rest, api.ErrLong)
	}
	for _, rest := range []string{" UNION^", " UNION ^SELECT a FROM t", " UNION ALL^", " UNION ALL  ^", " UNION ALL ^FROM", " UNION ALL ^'select'", " UNION ALL ^a", " ^SELECT a FROM t", " ORDER BY 1 ^UNION ALL SELECT a FROM t"} {
		fails(t, four+rest, api.ErrSyntax)
	}
	fails(t, "SELECT a FROM t x ^y UNION ALL "+four, api.ErrSyntax)
}

// TestManyItems: P9.1, 8 items, expressions of a GROUP BY and keys, and one more, which need not be one.
func TestManyItems(t *testing.T) {
	one := "SELECT a FROM t"
	for _, x := range []string{"a", "t.a", "COUNT(*)", "COUNT(a)", "(a)", "-a", "NOT a", "SUM(a + (b))", "'x'", "a IS NULL", "1"} {
		eight := commas(8, x)
		accepts(t, "SELECT "+eight+" FROM t")
		accepts(t, "SELECT DISTINCT "+eight+" FROM t UNION ALL SELECT "+eight+" FROM t")
		for _, more := range []string{"b FROM t", "-b", "COUNT(*) FROM t", "NOT b", "(b) FROM t", "'x'", "$1", "FROM t", "SELECT", ", b", ")", "* FROM t", "= a", ""} {
			fails(t, "SELECT "+eight+", ^"+more, api.ErrLong)
			fails(t, "SELECT DISTINCT "+eight+", ^"+more, api.ErrLong)
			fails(t, one+" UNION ALL SELECT "+eight+", ^"+more, api.ErrLong)
			if !strings.HasPrefix(x, "COUNT") && !strings.HasPrefix(x, "SUM") {
				fails(t, one+" GROUP BY "+eight+", ^"+more, api.ErrLong)
				fails(t, one+" UNION ALL "+one+" GROUP BY "+eight+", ^"+more, api.ErrLong)
			}
		}
		fails(t, "SELECT "+eight+" ^b FROM t", api.ErrSyntax)
		fails(t, "SELECT "+commas(7, x)+",^, a", api.ErrSyntax)
	}
	fails(t, "SELECT "+commas(8, "a")+",   ^", api.ErrLong) // behind the tokens, at the end
	fails(t, one+" GROUP BY "+commas(8, "a")+", \n^", api.ErrLong)
	group := " GROUP BY " + commas(8, "a")
	accepts(t, one+group)
	accepts(t, "SELECT "+commas(8, "b")+" FROM t"+group+" UNION ALL "+one+group+" ORDER BY "+commas(8, "1 DESC"))
	for _, more := range []string{"1", "0 DESC", "2 DESC, 3", "a", "DESC", ",", "", "-1", "SELECT", "(1)"} {
		fails(t, one+" ORDER BY "+commas(8, "1")+", ^"+more, api.ErrLong)
		fails(t, one+" UNION ALL "+one+group+" ORDER BY "+commas(8, "1 DESC")+",^"+more, api.ErrLong)
	}
	fails(t, one+" ORDER BY "+commas(8, "1")+",  ^", api.ErrLong)
	fails(t, one+" ORDER BY "+commas(8, "1")+" ^1", api.ErrSyntax)
	fails(t, one+" ORDER BY "+commas(7, "1")+",^", api.ErrSyntax)
}

// TestManyTables: P9.1, 4 tables of FROM, "," and JOIN, and 2 others, and one more of either sort, which must have a name.
func TestManyTables(t *testing.T) {
	cores := []string{"t, u, v, w", "t x, u, v JOIN w ON a", "t JOIN u ON a, v x, w y", "t JOIN u ON a JOIN v ON b JOIN w ON c", "t, t, t, t"}
	outers := []string{" LEFT JOIN u ON a LEFT JOIN v ON b", " LEFT JOIN u x ON a SEMI JOIN v ON b", " SEMI JOIN u ON a LEFT JOIN v ON b", " SEMI JOIN u ON a SEMI JOIN v y ON b"}
	for _, core := range cores {
		s := "SELECT a FROM " + core
		accepts(t, s)
		for _, intro := range []string{", ", " JOIN "} {
			for _, more := range []string{"z", "z x", "z ON a", "z, y", "t", "z 1", "z ON"} {
				fails(t, s+intro+"^"+more, api.ErrLong)
				fails(t, s+" UNION ALL "+s+intro+"^"+more, api.ErrLong)
			}
			for _, more := range []string{"", "1", "'z'", "(z)", "WHERE", "on", ",", "LEFT JOIN z ON a"} {
				fails(t, s+intro+"^"+more, api.ErrSyntax)
			}
		}
		for _, outer := range outers {
			s := s + outer
			accepts(t, s+" WHERE a GROUP BY b")
			accepts(t, s+" UNION ALL "+s+" UNION ALL "+s+" ORDER BY 1")
			fails(t, s+"^, z", api.ErrSyntax)
			fails(t, s+" ^JOIN z ON a", api.ErrSyntax)
		}
	}
	for _, outer := range outers {
		s := "SELECT a FROM t" + outer
		accepts(t, s)
		for _, intro := range []string{" LEFT JOIN ", " SEMI JOIN "} {
			for _, more := range []string{"z ON a", "z", "z x y", "z, y", "z ON"} {
				fails(t, s+intro+"^"+more, api.ErrLong)
				fails(t, "SELECT a FROM t UNION ALL "+s+intro+"^"+more, api.ErrLong)
			}
			for _, more := range []string{"", "1", "'z'", "ON a", "LEFT"} {
				fails(t, s+intro+"^"+more, api.ErrSyntax)
			}
			fails(t, s+strings.TrimSuffix(intro, "JOIN ")+"^z ON a", api.ErrSyntax)
		}
	}
}

// TestNesting: P9.1, an or, a not or a sign in 59 others, and in 60.
func TestNesting(t *testing.T) {
	rep := strings.Repeat
	// Each prefix begins 3 for (, 1 for NOT and 1 for -, and the name behind it an or, a not and a sign, unless the prefix has begun them.
	for _, x := range []struct{ ok, tail, long string }{
		{rep("(", 19), rep(")", 19), rep("(", 20)},
		{rep("NOT ", 57), "", rep("NOT ", 58)},
		{rep("-", 57), "", rep("-", 58)},
		{rep("NOT ", 20) + rep("-", 37), "", rep("NOT ", 20) + rep("-", 38)},
		{rep("NOT ", 20) + rep("-", 37), "", rep("NOT ", 21) + rep("-", 37)},
		{rep("(", 18) + rep("-", 3), rep(")", 18), rep("(", 18) + rep("-", 4)},
		{rep("(", 18) + rep("NOT ", 3), rep(")", 18), rep("(", 18) + rep("NOT ", 4)},
		{rep("-(", 14) + "-", rep(")", 14), rep("-(", 14) + "--"},
		{rep("NOT (", 14) + "NOT ", rep(")", 14), rep("NOT (", 14) + "NOT -"},
		{"a AND NOT " + rep("(", 18) + "b = --", rep(")", 18), "a AND NOT " + rep("(", 18) + "b = ---"},
		{"-a OR NOT (b) AND " + rep("(", 18) + "-b + (c) * ---", rep(")", 18), "-a OR NOT (b) AND " + rep("(", 18) + "-b + (c) * ----"},
	} {
		for _, ahead := range []string{"SELECT ", "SELECT COUNT(", "SELECT a FROM t JOIN u ON ", "SELECT a FROM t WHERE ", "SELECT a FROM t GROUP BY (((a))), "} {
			end := map[string]string{"SELECT ": " FROM t", "SELECT COUNT(": ") FROM t"}[ahead]
			accepts(t, ahead+x.ok+"a"+x.tail+end)
			for _, next := range []string{"a", "1", "NULL", "'a'", "$1", "(a)", "", "  ", ")", "=", "FROM", "COUNT(*)"} {
				fails(t, ahead+x.long+strings.Replace("^"+next, "^  ", "  ^", 1), api.ErrLong)
			}
		}
	}
	fails(t, "SELECT "+rep("(", 20)+"^"+rep("(", 10), api.ErrLong)
	fails(t, "SELECT "+rep("-", 58)+"^"+rep("-", 300), api.ErrLong)
	fails(t, "SELECT "+rep("NOT ", 59)+"^"+rep("NOT ", 300), api.ErrLong)
	fails(t, "SELECT "+rep("NOT ", 59)+"^a", api.ErrLong)
	fails(t, "SELECT "+rep("NOT ", 58)+"^-a", api.ErrLong)
	fails(t, "SELECT "+rep("(", 19)+"NOT ^a", api.ErrLong)
	fails(t, "SELECT "+rep("(", 19)+"-^a", api.ErrLong)
	fails(t, "SELECT "+rep("(", 19)+"^)", api.ErrSyntax)
	fails(t, "SELECT "+rep("(", 19)+"a^", api.ErrSyntax)
	fails(t, "SELECT "+rep("(", 19)+"^", api.ErrSyntax)
}

// TestNestingEnded: P9.1, what has ended does not count.
func TestNestingEnded(t *testing.T) {
	rep := strings.Repeat
	deep := rep("(", 19) + "a" + rep(")", 19)
	for _, s := range []string{
		rep("-a + ", 100) + "a", rep("NOT a AND ", 100) + "a", rep("(a) * ", 90) + "a", rep("NOT (a) OR ", 70) + "a", rep("a = b OR ", 80) + "a",
		deep + " + " + deep + " = " + deep + " AND " + deep, deep + " IS NULL OR " + deep + " IS NOT NULL", rep("(", 19) + rep("a OR ", 80) + "a" + rep(")", 19),
	} {
		accepts(t, "SELECT "+s+" FROM t")
		accepts(t, "SELECT a FROM t WHERE "+s)
	}
	accepts(t, "SELECT "+deep+", COUNT("+deep+") FROM t JOIN u ON "+deep+" WHERE "+deep+" GROUP BY "+deep+" ORDER BY 1")
	fails(t, "SELECT "+deep+", "+rep("(", 20)+"^a", api.ErrLong)
	fails(t, "SELECT a FROM t WHERE "+deep+" AND "+rep("(", 20)+"^(", api.ErrLong)
}

// TestFirst: P9.1, of several errors the first one is told, and ErrLong where two are at the same position.
func TestFirst(t *testing.T) {
	nine := commas(9, "a")
	fails(t, "SELECT "+commas(8, "a")+", ^a FROM t x y", api.ErrLong)
	fails(t, "SELECT a ^b, "+nine+" FROM t", api.ErrSyntax)
	fails(t, "SELECT "+commas(8, "a")+" FROM t, u, v, w, ^x WHERE WHERE", api.ErrLong)
	fails(t, "SELECT "+commas(8, "a")+", ^"+strings.Repeat("(", 25), api.ErrLong)
	fails(t, "SELECT a FROM t, u, v, w LEFT JOIN x ON a^, LEFT", api.ErrSyntax)
	fails(t, "SELECT a FROM t t1 ^t2 UNION ALL", api.ErrSyntax)
	fails(t, "SELECT "+strings.Repeat("(", 20)+"^FROM t", api.ErrLong)
	fails(t, "SELECT a FROM t WHERE b = ^= c UNION ALL SELECT "+nine, api.ErrSyntax)
}

// lists collects the places of all lists of q, with what is behind their length, and reports whether any is there twice.
type lists struct {
	seen  map[any]bool
	twice bool
}

func visit[T any](l *lists, s []T, inner func(T)) {
	for i := range s[:cap(s)] {
		at := &s[:cap(s)][i]
		l.twice = l.twice || l.seen[at]
		l.seen[at] = true
	}
	for _, x := range s {
		inner(x)
	}
}

func (l *lists) expr(e api.Expr) { visit(l, e.L, l.expr) }

func (l *lists) query(q api.Query) {
	visit(l, q.Order, func(api.Key) {})
	visit(l, q.Selects, func(s api.Select) {
		visit(l, s.Items, func(x api.Item) { l.expr(x.E) })
		visit(l, s.From, func(f api.From) { visit(l, f.On, l.expr) })
		visit(l, s.Where, l.expr)
		visit(l, s.Group, l.expr)
	})
}

// TestMemory: P3 and P4, no two lists of one result or of two share memory, and each call answers the same.
func TestMemory(t *testing.T) {
	s := "SELECT DISTINCT a, -b + 1 * 2 - c, COUNT(*), SUM(a OR b AND NOT c OR d) FROM t, u JOIN v ON a = b AND c IS NOT NULL LEFT JOIN w ON TRUE SEMI JOIN x ON a WHERE a + b + c + d = 1 OR (a) GROUP BY a, b, c UNION ALL SELECT a FROM t UNION ALL SELECT a FROM t GROUP BY (a), -a ORDER BY 1, 2 DESC, 3"
	l := lists{seen: map[any]bool{}}
	first, _, _ := parse.Parse(s)
	l.query(first)
	for range 3 {
		again, e, at := parse.Parse(s)
		if e != api.OK || at != 0 || !sameQuery(first, again) {
			t.Fatal(again, e, at)
		}
		l.query(again)
		fails(t, "SELECT a, b FROM t WHERE (a ^b", api.ErrSyntax)
	}
	if l.twice || len(l.seen) == 0 {
		t.Error("lists share memory", l.twice, len(l.seen))
	}
}
