package parse_test

import (
	"math/rand"
	"regexp"
	"slices"
	"strconv"
	"strings"
	"testing"

	"weathercock/api"
	"weathercock/lex"
	"weathercock/parse"
)

// grammarText is the chapter's, as it stands there.
const grammarText = `
query  = select { UNION ALL select } [ ORDER BY key { "," key } ]
key    = number [ DESC ]
select = SELECT [ DISTINCT ] item { "," item } FROM table { "," table | JOIN table ON or }
         { LEFT JOIN table ON or | SEMI JOIN table ON or } [ WHERE or ] [ GROUP BY or { "," or } ]
table  = name [ name ]
item   = COUNT "(" "*" ")" | COUNT "(" or ")" | SUM "(" or ")" | MIN "(" or ")" | MAX "(" or ")" | or
or     = and { OR and }
and    = not { AND not }
not    = NOT not | test
test   = sum [ ( "=" | "<>" | "<" | "<=" | ">" | ">=" ) sum | IS [ NOT ] NULL ]
sum    = prod { ( "+" | "-" ) prod }
prod   = sign { ( "*" | "/" ) sign }
sign   = "-" sign | atom
atom   = number | text | param | TRUE | FALSE | NULL | name [ "." name ] | "(" or ")"
`

// node is a part of the grammar: "{" any number of times, "[" optional, "|" one of them, "" one after the other; or a symbol.
type node struct {
	kind   string
	symbol string
	parts  []*node
}

// grammar holds the right side of each rule.
type grammar map[string]*node

func readGrammar(s string) grammar {
	g := grammar{}
	var rules []string
	for _, line := range strings.Split(strings.TrimSpace(s), "\n") {
		if strings.HasPrefix(line, " ") {
			rules[len(rules)-1] += line
		} else {
			rules = append(rules, line)
		}
	}
	for _, rule := range rules {
		left, right, _ := strings.Cut(rule, "=")
		words := regexp.MustCompile(`"[^"]*"|[A-Za-z]+|[{}\[\]()|]`).FindAllString(right, -1)
		g[strings.TrimSpace(left)] = readNode(&words)
	}
	return g
}

// readNode reads alternatives, up to the bracket that ends them.
func readNode(words *[]string) *node {
	either := &node{kind: "|", parts: []*node{{}}}
	for len(*words) > 0 {
		w := (*words)[0]
		*words = (*words)[1:]
		last := either.parts[len(either.parts)-1]
		switch w {
		case "}", "]", ")":
			return either
		case "|":
			either.parts = append(either.parts, &node{})
		case "{", "[":
			last.parts = append(last.parts, &node{kind: w, parts: []*node{readNode(words)}})
		case "(":
			last.parts = append(last.parts, readNode(words))
		default:
			last.parts = append(last.parts, &node{kind: "symbol", symbol: w})
		}
	}
	return either
}

// state is what is counted on the way through the grammar.
type state struct {
	open, selects, items, groups, keys, core, outer int
	grouping                                        bool // GROUP is behind
	long                                            bool // what begins here is too many, or too deep
	longNext                                        bool // the next token, if it is a SELECT or the name of a table, is one too many
	last, before                                    string
}

// wait is a symbol that may be next, and what is done with the state behind it.
type wait struct {
	symbol string
	st     state
	then   func(state)
}

// machine goes through the grammar in all ways at once; waits are the ways that are open.
type machine struct {
	g     grammar
	waits []wait
}

func (m *machine) visit(n *node, st state, then func(state)) {
	switch n.kind {
	case "":
		m.visitAll(n.parts, st, then)
	case "|":
		for _, x := range n.parts {
			m.visit(x, st, then)
		}
	case "[":
		then(st)
		m.visit(n.parts[0], st, then)
	case "{":
		then(st)
		m.visit(n.parts[0], st, func(st state) { m.visit(n, st, then) })
	default:
		if rule, ok := m.g[n.symbol]; ok {
			m.enter(n.symbol, rule, st, then)
		} else {
			m.waits = append(m.waits, wait{n.symbol, st, then})
		}
	}
}

func (m *machine) visitAll(l []*node, st state, then func(state)) {
	if len(l) == 0 {
		then(st)
		return
	}
	m.visit(l[0], st, func(st state) { m.visitAll(l[1:], st, then) })
}

// enter counts what begins, and goes on with its rule.
func (m *machine) enter(symbol string, rule *node, st state, then func(state)) {
	switch symbol {
	case "select":
		st = state{selects: st.selects + 1}
		st.longNext = st.selects > 4
	case "item":
		st.items++
		st.long = st.long || st.items > 8
	case "key":
		st.keys++
		st.long = st.long || st.keys > 8
	case "table":
		if st.last == "JOIN" && (st.before == "LEFT" || st.before == "SEMI") {
			st.outer++
		} else {
			st.core++
		}
		st.longNext = st.core > 4 || st.outer > 2
	case "or", "not", "sign":
		if symbol == "or" && st.grouping && st.open == 0 {
			st.groups++
			st.long = st.long || st.groups > 8
		}
		st.long = st.long || st.open >= 60
		open := st.open
		st.open++
		m.visit(rule, st, func(st state) {
			st.open = open
			then(st)
		})
		return
	}
	m.visit(rule, st, then)
}

// symbolOf is the symbol of the grammar for a token.
func symbolOf(x lex.Token) string {
	switch x.Kind {
	case lex.Word:
		return strings.ToUpper(x.S)
	case lex.Sign:
		return `"` + x.S + `"`
	case 0:
		return "end"
	}
	return map[int]string{lex.Name: "name", lex.Number: "number", lex.Text: "text", lex.Param: "param"}[x.Kind]
}

// verdict is what the model tells of s: an error and its position.
func (g grammar) verdict(s string) (api.Errno, int) {
	l, e, at := lex.Lex(s)
	if e != api.OK {
		return e, at
	}
	m := &machine{g: g}
	m.visit(&node{kind: "symbol", symbol: "query"}, state{}, func(st state) {
		m.waits = append(m.waits, wait{"end", st, func(state) {}})
	})
	for _, x := range append(l, lex.Token{At: len(s)}) {
		symbol := symbolOf(x)
		var now []wait
		long := false
		for _, w := range m.waits {
			long = long || w.st.long || w.st.longNext && w.symbol == symbol
			if w.symbol == symbol && !w.st.long && !w.st.longNext {
				now = append(now, w)
			}
		}
		if len(now) == 0 && long {
			return api.ErrLong, x.At
		}
		if len(now) == 0 {
			return api.ErrSyntax, x.At
		}
		m.waits = nil
		for _, w := range now {
			w.st.before, w.st.last = w.st.last, symbol
			w.st.grouping = w.st.grouping || symbol == "GROUP"
			w.then(w.st)
		}
	}
	return api.OK, 0
}

// like checks that Parse tells of s what the grammar tells; the first query that differs ends the test.
func (g grammar) like(t *testing.T, s string) api.Errno {
	t.Helper()
	want, wantAt := g.verdict(s)
	q, e, at := parse.Parse(s)
	if e != want || at != wantAt || (e == api.OK) != (len(q.Selects) > 0) || e != api.OK && len(q.Order) > 0 {
		t.Fatalf("%q: %+v, error %d at %d, the grammar says error %d at %d", s, q, e, at, want, wantAt)
	}
	return e
}

// pieces are tokens of all kinds and spellings.
func pieces() []string {
	return append(strings.Fields(strings.ToUpper(words)+" "+signs), "a", "b_1", "0", "1", "'x'", "'from'", "$1")
}

// queries are valid, and of all sorts.
func queries() []string {
	return []string{
		"SELECT a FROM t", "SELECT DISTINCT a FROM t", "SELECT t.a, b, 1, 'x', $1, TRUE, FALSE, NULL FROM t", "SELECT COUNT(*), COUNT(a), SUM(a), MIN(a), MAX(-a) FROM t x",
		"SELECT a FROM t x, u JOIN v y ON a = b, w LEFT JOIN z ON a SEMI JOIN z y ON b WHERE c GROUP BY d, e", "SELECT a FROM t SEMI JOIN u ON a IS NULL LEFT JOIN v ON a < b",
		"SELECT a FROM t WHERE NOT a IS NOT NULL OR b < 1 AND c = -d", "SELECT a FROM t WHERE (a = b) = (c <> d) AND NOT NOT (a)", "SELECT a + b * (c - d) / -e, ((a)) FROM t", "SELECT a >= b, a <= b, a > b, a < b, a <> b FROM t",
		"SELECT a FROM t GROUP BY a + 1, b IS NULL, c.d", "SELECT a FROM t ORDER BY 1, 2 DESC, 3", "SELECT a FROM t UNION ALL SELECT DISTINCT b FROM u, v UNION ALL SELECT COUNT(*) FROM w ORDER BY 1 DESC",
		"SELECT a FROM t UNION ALL SELECT a FROM t UNION ALL SELECT a FROM t UNION ALL SELECT a FROM t GROUP BY a", "SELECT a FROM t, u, v, w", "SELECT a FROM t JOIN u ON a JOIN v ON b JOIN w ON c SEMI JOIN x ON a SEMI JOIN y ON b",
		"SELECT 1,1,1,1,1,1,1,1 FROM t GROUP BY 1,1,1,1,1,1,1,1 ORDER BY 1,1,1,1,1,1,1,1", "SELECT (((((((((((((((((((a))))))))))))))))))) FROM t",
		"SELECT NOT (NOT (NOT (NOT (NOT (NOT (NOT (NOT (NOT (NOT (NOT (NOT (NOT (NOT NOT a))))))))))))) FROM t",
	}
}

// TestModel: P9.1, the valid queries, several times, cut off at each token, with each token left out, twice, exchanged for each piece, and with each piece ahead of it.
func TestModel(t *testing.T) {
	t.Parallel()
	g := readGrammar(grammarText)
	for _, s := range queries() {
		if g.like(t, s) != api.OK {
			t.Fatal(s)
		}
		for n := range 6 {
			g.like(t, strings.Repeat(s+" UNION ALL ", n)+s)
			g.like(t, strings.Repeat("SELECT a FROM t UNION ALL ", n)+s)
		}
		l := tokens(s)
		for i := range l {
			ahead, behind := strings.Join(l[:i], " ")+" ", " "+strings.Join(l[i+1:], " ")
			g.like(t, ahead)
			g.like(t, ahead+behind)
			g.like(t, ahead+l[i]+" "+l[i]+behind)
			for _, x := range pieces() {
				g.like(t, ahead+x+behind)
				g.like(t, ahead+x+" "+l[i]+behind)
			}
		}
	}
}

// tokens are those of s, as they are written.
func tokens(s string) []string {
	l, _, _ := lex.Lex(s)
	var out []string
	for i, x := range l {
		end := len(s)
		if i+1 < len(l) {
			end = l[i+1].At
		}
		out = append(out, strings.TrimSpace(s[x.At:end]))
	}
	return out
}

// TestShort: P9.1, all ways to go on with some beginnings, by up to three tokens.
func TestShort(t *testing.T) {
	t.Parallel()
	g := readGrammar(grammarText)
	for _, ahead := range []string{"", "SELECT", "SELECT a", "SELECT COUNT", "SELECT a FROM t", "SELECT a FROM t ORDER BY 1"} {
		for _, x := range pieces() {
			one := ahead + " " + x
			g.like(t, one)
			for _, y := range pieces() {
				g.like(t, one+" "+y)
				if want, at := g.verdict(one); want != api.OK && at < len(one) {
					continue // what follows does not matter any more
				}
				for _, z := range pieces() {
					g.like(t, one+" "+y+" "+z)
				}
			}
		}
	}
}

// maker makes random queries: what is written, and what it denotes.
type maker struct {
	r *rand.Rand
}

// pick is one of l.
func pick[T any](m maker, l ...T) T { return l[m.r.Intn(len(l))] }

func (m maker) name() string { return pick(m, "a", "b", "c", "t", "ab_9", "counts", "x") }

// cased is s with some letters in upper case.
func (m maker) cased(s string) string {
	out := []byte(s)
	for i := range out {
		if m.r.Intn(2) == 0 {
			out[i] = strings.ToUpper(s)[i]
		}
	}
	return string(out)
}

// word is a word or a name between blanks.
func (m maker) word(s string) string { return m.blank() + m.cased(s) + m.blank() }

func (m maker) blank() string { return pick(m, " ", " ", "  ", "\n", "\t\r\n") }

// The levels of the grammar, the one that binds least first.
const (
	levelOr = iota
	levelAnd
	levelNot
	levelTest
	levelSum
	levelProd
	levelSign
	levelAtom
)

// binaries are the operations between two operands.
var binaries = []struct {
	s           string
	op, level   int
	left, right int // the levels of the operands
}{
	{"or", api.OpOr, levelOr, levelOr, levelAnd}, {"and", api.OpAnd, levelAnd, levelAnd, levelNot},
	{"=", api.OpEq, levelTest, levelSum, levelSum}, {"<>", api.OpNe, levelTest, levelSum, levelSum}, {"<", api.OpLt, levelTest, levelSum, levelSum},
	{"<=", api.OpLe, levelTest, levelSum, levelSum}, {">", api.OpGt, levelTest, levelSum, levelSum}, {">=", api.OpGe, levelTest, levelSum, levelSum},
	{"+", api.OpAdd, levelSum, levelSum, levelProd}, {"-", api.OpSub, levelSum, levelSum, levelProd},
	{"*", api.OpMul, levelProd, levelProd, levelSign}, {"/", api.OpDiv, levelProd, levelProd, levelSign},
}

// expr is an expression that may stand where one of that level is asked for; size is how large it may be.
func (m maker) expr(size, level int) (string, api.Expr) {
	s, e, own := m.bare(size)
	if own < level || m.r.Intn(8) == 0 {
		s = "(" + s + ")"
	}
	return s, e
}

// bare is an expression without parentheses around it, and its level.
func (m maker) bare(size int) (string, api.Expr, int) {
	if size <= 1 {
		s, e := m.atom()
		return s, e, levelAtom
	}
	switch m.r.Intn(8) {
	case 0:
		s, e := m.expr(size-1, levelNot)
		return m.word("not") + s, apply(api.OpNot, e), levelNot
	case 1:
		s, e := m.expr(size-1, levelSign)
		return pick(m, "-", "- ") + s, apply(api.OpNeg, e), levelSign
	case 2:
		s, e := m.expr(size-1, levelSum)
		return s + m.word("is") + m.word("null"), apply(api.OpIs, e), levelTest
	case 3:
		s, e := m.expr(size-1, levelSum)
		return s + m.word("is") + m.word("not") + m.word("null"), apply(api.OpNot, apply(api.OpIs, e)), levelTest
	}
	x := pick(m, binaries...)
	part := 1 + m.r.Intn(size-1)
	ls, le := m.expr(part, x.left)
	rs, re := m.expr(size-part, x.right)
	between := m.word(x.s)
	if x.op != api.OpOr && x.op != api.OpAnd && m.r.Intn(2) == 0 {
		between = x.s
	}
	return ls + between + rs, apply(x.op, le, re), x.level
}

func (m maker) atom() (string, api.Expr) {
	switch m.r.Intn(9) {
	case 0:
		n := pick(m, 0, 1, 2, 1234567890123)
		return pick(m, "", "00") + strconv.Itoa(n), num(n)
	case 1:
		s := pick(m, "", "x", "it's", "SELECT", "'", "a b")
		return "'" + strings.ReplaceAll(s, "'", "''") + "'", text(s)
	case 2:
		n := 1 + m.r.Intn(4)
		return "$" + strconv.Itoa(n), param(n)
	case 3:
		return m.word("true"), yes
	case 4:
		return m.word("false"), no
	case 5:
		return m.word("null"), null
	case 6:
		table, s := m.name(), m.name()
		return m.cased(table) + pick(m, ".", " . ") + m.cased(s), of(table, s)
	}
	s := m.name()
	return m.cased(s), name(s)
}

// any is an expression that may stand anywhere.
func (m maker) any() (string, api.Expr) { return m.expr(1+m.r.Intn(6), levelOr) }

func (m maker) item() (string, api.Item) {
	if m.r.Intn(8) == 0 {
		return m.word("count") + "(" + m.blank() + "*" + m.blank() + ")", api.Item{Agg: api.AggCount}
	}
	s, e := m.any()
	agg := pick(m, api.AggNone, api.AggNone, api.AggOf, api.AggSum, api.AggMin, api.AggMax)
	if agg != api.AggNone {
		s = m.word([]string{api.AggOf: "count", api.AggSum: "sum", api.AggMin: "min", api.AggMax: "max"}[agg]) + "(" + s + ")"
	}
	return s, api.Item{Agg: agg, E: e}
}

func (m maker) table(kind int) (string, api.From) {
	f := api.From{Table: m.name(), Kind: kind}
	f.Alias = f.Table
	s := m.word(f.Table)
	if m.r.Intn(2) == 0 {
		f.Alias = m.name()
		s += m.word(f.Alias)
	}
	return s, f
}

func (m maker) joined(kind int) (string, api.From) {
	s, f := m.table(kind)
	on, e := m.any()
	f.On = []api.Expr{e}
	return []string{"", m.word("left"), m.word("semi")}[kind] + m.word("join") + s + m.word("on") + on + " ", f
}

// listed is n things, with commas between.
func listed[T any](n int, one func() (string, T)) (string, []T) {
	var written []string
	var out []T
	for range n {
		s, x := one()
		written, out = append(written, s), append(out, x)
	}
	return strings.Join(written, ","), out
}

// count is mostly small, but may be the limit.
func (m maker) count(limit int) int { return 1 + min(m.r.Intn(limit), m.r.Intn(limit)) }

func (m maker) selection() (string, api.Select) {
	var x api.Select
	s := m.word("select")
	if x.Distinct = m.r.Intn(3) == 0; x.Distinct {
		s += m.word("distinct")
	}
	items, l := listed(m.count(api.MaxItems), m.item)
	x.Items = l
	first, f := m.table(api.Inner)
	x.From = append(x.From, f)
	s += items + m.word("from") + first
	for range m.r.Intn(api.MaxCore) {
		more, f := m.joined(api.Inner)
		if m.r.Intn(2) == 0 {
			more, f = m.table(api.Inner)
			more = "," + more
		}
		s, x.From = s+more, append(x.From, f)
	}
	for range m.r.Intn(api.MaxOuter + 1) {
		more, f := m.joined(pick(m, api.Left, api.Semi))
		s, x.From = s+more, append(x.From, f)
	}
	if m.r.Intn(2) == 0 {
		where, e := m.any()
		s, x.Where = s+m.word("where")+where, []api.Expr{e}
	}
	if m.r.Intn(2) == 0 {
		group, l := listed(m.count(api.MaxItems), m.any)
		s, x.Group = s+m.word("group")+m.word("by")+group, l
	}
	return s, x
}

func (m maker) query() (string, api.Query) {
	var q api.Query
	var written []string
	for range m.count(api.MaxBlocks) {
		s, x := m.selection()
		written, q.Selects = append(written, s), append(q.Selects, x)
	}
	s := strings.Join(written, m.word("union")+m.word("all"))
	if m.r.Intn(2) == 0 {
		keys, l := listed(m.count(api.MaxItems), func() (string, api.Key) {
			k := api.Key{Col: m.r.Intn(12) - 1, Desc: m.r.Intn(2) == 0}
			s := strconv.Itoa(k.Col + 1)
			if k.Desc {
				s += m.word("desc")
			}
			return s, k
		})
		s, q.Order = s+m.word("order")+m.word("by")+keys, l
	}
	return s, q
}

// TestRandom: P9.1 and P9.2, random queries denote what they were made from, and the grammar permits them; with a few tokens exchanged, left out or put in, they are what the grammar says.
func TestRandom(t *testing.T) {
	t.Parallel()
	g := readGrammar(grammarText)
	m := maker{rand.New(rand.NewSource(9))}
	read, fine := 0, 0
	for range 2500 {
		s, want := m.query()
		if _, e, _ := lex.Lex(s); e != api.OK {
			continue
		}
		read++
		is(t, s, want)
		if g.like(t, s) != api.OK || t.Failed() {
			t.FailNow()
		}
		l := tokens(s)
		for range 1 + m.r.Intn(3) {
			i := m.r.Intn(len(l))
			l = slices.Concat(l[:i], [][]string{nil, {pick(m, pieces()...)}, {l[m.r.Intn(len(l))]}, {l[i], pick(m, pieces()...)}}[m.r.Intn(4)], l[i+1:])
		}
		if g.like(t, strings.Join(l, " ")) == api.OK {
			fine++
		}
	}
	if read < 2000 || fine < 60 {
		t.Error("too few queries", read, fine)
	}
}

// TestRandomTokens: P1 and P9.1, tokens without any order, and long runs of a few of them.
func TestRandomTokens(t *testing.T) {
	t.Parallel()
	g := readGrammar(grammarText)
	m := maker{rand.New(rand.NewSource(10))}
	for range 10000 {
		few := pieces()[:1+m.r.Intn(len(pieces()))]
		m.r.Shuffle(len(few), func(i, k int) { few[i], few[k] = few[k], few[i] })
		few = few[:1+m.r.Intn(min(6, len(few)))]
		s := pick(m, "", "SELECT ", "SELECT (", "SELECT a FROM t WHERE ", "SELECT a FROM t GROUP BY ", "SELECT a FROM t ", "SELECT a FROM t ORDER BY ")
		for range m.r.Intn(120) {
			s += pick(m, few...) + " "
		}
		g.like(t, s)
	}
	for _, x := range pieces() {
		for _, ahead := range []string{"", "SELECT ", "SELECT a FROM t ", "SELECT a FROM t WHERE ", "SELECT a FROM t ORDER BY "} {
			for _, n := range []int{1, 2, 18, 19, 20, 21, 56, 57, 58, 59, 60, 61, 200, 390, 401} {
				g.like(t, ahead+strings.Repeat(x+" ", n))
				g.like(t, ahead+strings.Repeat(x+" ", n)+"a")
				g.like(t, ahead+strings.Repeat("( "+x+" ", n)+"a")
				g.like(t, ahead+"a "+strings.Repeat(x+" a ", n))
				g.like(t, ahead+"1 "+strings.Repeat(x+" 1 ", n))
			}
		}
	}
}
