package expr_test

import (
	"math"
	"math/rand"
	"slices"
	"strconv"
	"strings"
	"testing"

	"weathercock/api"
	"weathercock/expr"
	"weathercock/value"
)

// maxOps is the number of operations that an expression consists of at most.
const maxOps = 200

var null = api.Value{}

func integer(n int) api.Value { return api.Value{Kind: api.Int, N: n} }

func text(s string) api.Value { return api.Value{Kind: api.Text, S: s} }

func truth(b bool) api.Value {
	if b {
		return api.Value{Kind: api.Bool, N: 1}
	}
	return api.Value{Kind: api.Bool}
}

func constant(v api.Value) api.Expr { return api.Expr{Op: api.OpConst, V: v} }

func num(n int) api.Expr { return constant(integer(n)) }

func ref(rel, col int) api.Expr { return api.Expr{Op: api.OpRef, Rel: rel, Col: col} }

func param(n int) api.Expr { return api.Expr{Op: api.OpParam, N: n} }

func apply(op int, l ...api.Expr) api.Expr { return api.Expr{Op: op, L: l} }

// operands returns how many operands op requires, as the chapter says.
func operands(op int) int {
	switch op {
	case api.OpConst, api.OpRef, api.OpParam:
		return 0
	case api.OpNeg, api.OpNot, api.OpIs:
		return 1
	}
	return 2
}

// values are valid values of every kind, at their edges.
func values() []api.Value {
	l := []api.Value{null, truth(false), truth(true)}
	for _, n := range []int{math.MinInt, math.MinInt + 1, -11, -10, -1, 0, 1, 2, 10, 100, math.MaxInt} {
		l = append(l, integer(n))
	}
	for _, s := range []string{"", "a", "b", "ab", "a b", " ", ":", ")", "(", "1:a", "N", "I1", "T0:", "R0.0", "(8 N)", "\x00", "\xff", "é", "'", strings.Repeat("a", api.MaxBytes-1), strings.Repeat("\xff", api.MaxBytes), strings.Repeat("é", api.MaxBytes/2)} {
		l = append(l, text(s))
	}
	return l
}

// wrongValues are values that are not valid, each in one way.
func wrongValues() []api.Value {
	return []api.Value{
		{Kind: -1}, {Kind: 4}, {Kind: math.MinInt}, {Kind: math.MaxInt},
		{N: 1}, {N: -1}, {S: "a"},
		{Kind: api.Int, S: "a"}, {Kind: api.Int, N: 5, S: "5"},
		{Kind: api.Bool, N: 2}, {Kind: api.Bool, N: -1}, {Kind: api.Bool, N: 1, S: "a"},
		{Kind: api.Text, N: 1}, {Kind: api.Text, N: -1, S: "a"},
		text(strings.Repeat("a", api.MaxBytes+1)), text(strings.Repeat("é", api.MaxBytes/2+1)),
	}
}

// leaves are all sorts of valid expressions without operands.
func leaves() []api.Expr {
	var l []api.Expr
	for _, v := range values() {
		l = append(l, constant(v))
	}
	for rel := range 16 {
		for col := range api.MaxCols {
			l = append(l, ref(rel, col))
		}
	}
	for n := range api.MaxParams {
		l = append(l, param(n+1))
	}
	return l
}

// filled is a valid expression of that operation.
func filled(op int) api.Expr {
	switch op {
	case api.OpConst:
		return num(3)
	case api.OpRef:
		return ref(2, 1)
	case api.OpParam:
		return param(2)
	}
	return apply(op, []api.Expr{ref(1, 0), num(7)}[:operands(op)]...)
}

// chain is an expression of that depth; at each level but the last one stands op, at the end e.
func chain(op, depth int, e api.Expr) api.Expr {
	for range depth - 1 {
		e = apply(op, e)
	}
	return e
}

// tree is a shallow expression of exactly n operations.
func tree(n int) api.Expr {
	switch n {
	case 1:
		return num(1)
	case 2:
		return apply(api.OpNeg, num(1))
	}
	half := (n - 1) / 2
	return apply(api.OpAdd, tree(half), tree(n-1-half))
}

// ones is a sum of n times 1.
func ones(n int) api.Expr {
	if n == 1 {
		return num(1)
	}
	return apply(api.OpAdd, ones(n/2), ones(n-n/2))
}

// looped is an expression that contains itself.
func looped(op int) api.Expr {
	l := make([]api.Expr, operands(op))
	for i := range l {
		l[i] = api.Expr{Op: op, L: l}
	}
	return l[0]
}

// doubled is an expression of that depth whose operands are always the same list, so that it is vast as a tree.
func doubled(depth int) api.Expr {
	e := num(1)
	for range depth - 1 {
		e = apply(api.OpAdd, e, e)
	}
	return e
}

// invalid are expressions that are not valid, each in one way.
func invalid() []api.Expr {
	l := []api.Expr{{}, {Op: -1}, {Op: api.OpName}, {Op: api.OpName, V: text("a")}, {Op: 20}, {Op: math.MinInt}, {Op: math.MaxInt}, {Op: api.OpName, L: []api.Expr{num(1)}}}
	for op := api.OpConst; op <= api.OpIs; op++ {
		for n := range 5 {
			if e := filled(op); n != operands(op) {
				e.L = slices.Repeat([]api.Expr{num(1)}, n)
				l = append(l, e)
			}
		}
		for _, f := range []func(e *api.Expr){
			func(e *api.Expr) { e.S = "t" },
			func(e *api.Expr) { e.V = api.Value{Kind: 4} },
			func(e *api.Expr) { e.V = api.Value{S: "a"} },
			func(e *api.Expr) { e.Rel = -1 },
			func(e *api.Expr) { e.Rel = 16 },
			func(e *api.Expr) { e.Col = -1 },
			func(e *api.Expr) { e.Col = api.MaxCols },
			func(e *api.Expr) { e.Rel = math.MaxInt },
			func(e *api.Expr) { e.Col = math.MinInt },
			func(e *api.Expr) { e.N = -1 },
			func(e *api.Expr) { e.N = api.MaxParams + 1 },
			func(e *api.Expr) { e.N = math.MinInt },
			func(e *api.Expr) { e.N = math.MaxInt },
		} {
			e := filled(op)
			f(&e)
			l = append(l, e)
		}
		if op != api.OpConst {
			for _, v := range []api.Value{integer(0), integer(1), truth(false), text("")} {
				e := filled(op)
				e.V = v
				l = append(l, e)
			}
		}
		if op != api.OpRef {
			for _, n := range []int{1, 15} {
				e := filled(op)
				e.Rel = n
				l = append(l, e)
			}
			for _, n := range []int{1, api.MaxCols - 1} {
				e := filled(op)
				e.Col = n
				l = append(l, e)
			}
		}
		if op != api.OpParam {
			for _, n := range []int{1, api.MaxParams} {
				e := filled(op)
				e.N = n
				l = append(l, e)
			}
		}
	}
	l = append(l, api.Expr{Op: api.OpParam})
	for _, v := range wrongValues() {
		l = append(l, constant(v))
	}
	return l
}

// invalidWhole are expressions that are not valid by their size, or by something inside.
func invalidWhole() []api.Expr {
	l := []api.Expr{
		tree(maxOps + 1), tree(maxOps + 2), tree(5000), doubled(9), doubled(20), doubled(21), doubled(64), doubled(5000),
		chain(api.OpNeg, api.MaxDepth+1, num(1)), chain(api.OpNot, api.MaxDepth+1, ref(0, 0)), chain(api.OpIs, 1<<16, param(1)),
		looped(api.OpNeg), looped(api.OpAnd), looped(api.OpIs), looped(api.OpEq),
		apply(api.OpAdd, looped(api.OpAdd), num(1)), apply(api.OpAdd, num(1), looped(api.OpAdd)),
	}
	for _, op := range []int{api.OpAdd, api.OpAnd, api.OpEq} {
		left, right := num(1), num(1)
		for range api.MaxDepth {
			left, right = apply(op, left, num(1)), apply(op, num(1), right)
		}
		l = append(l, left, right)
	}
	for op := api.OpAdd; op <= api.OpIs; op++ {
		for _, bad := range invalid() {
			if operands(op) == 1 {
				l = append(l, apply(op, bad))
			} else {
				l = append(l, apply(op, bad, num(1)), apply(op, num(1), bad))
			}
		}
	}
	for _, bad := range []api.Expr{{}, {Op: api.OpName}, {Op: api.OpParam}, {Op: api.OpAdd}, {Op: api.OpRef, Rel: 16}} {
		l = append(l, chain(api.OpNot, api.MaxDepth, bad), apply(api.OpAnd, apply(api.OpAnd, num(1), num(2)), apply(api.OpOr, num(1), apply(api.OpIs, bad))))
	}
	return l
}

// random is an expression of at most that depth, of those operations and of what leaf makes.
func random(r *rand.Rand, depth int, leaf func() api.Expr, ops []int) api.Expr {
	if depth == 1 || r.Intn(5) == 0 {
		return leaf()
	}
	op := ops[r.Intn(len(ops))]
	e := api.Expr{Op: op}
	for range operands(op) {
		e.L = append(e.L, random(r, depth-1, leaf, ops))
	}
	return e
}

// operations are those from low to high.
func operations(low, high int) []int {
	var l []int
	for op := low; op <= high; op++ {
		l = append(l, op)
	}
	return l
}

// some are n random valid expressions.
func some(seed int64, n int) []api.Expr {
	r := rand.New(rand.NewSource(seed))
	all, ops := leaves(), operations(api.OpAdd, api.OpIs)
	leaf := func() api.Expr { return all[r.Intn(len(all))] }
	var l []api.Expr
	for range n {
		l = append(l, random(r, 1+r.Intn(7), leaf, ops))
	}
	return l
}

// valid are valid expressions of all sorts, each another one.
func valid() []api.Expr {
	l := leaves()
	for op := api.OpAdd; op <= api.OpIs; op++ {
		if operands(op) == 1 {
			l = append(l, apply(op, num(1)), apply(op, ref(0, 1)), apply(op, apply(op, num(1))))
			continue
		}
		l = append(l, apply(op, num(1), num(2)), apply(op, num(2), num(1)), apply(op, num(1), num(1)), apply(op, ref(0, 1), param(1)), apply(op, apply(op, num(1), num(2)), num(3)), apply(op, num(1), apply(op, num(2), num(3))))
	}
	return append(l, tree(maxOps), tree(maxOps-1), chain(api.OpNeg, api.MaxDepth, num(1)), chain(api.OpNeg, api.MaxDepth-1, num(1)), chain(api.OpIs, api.MaxDepth, ref(3, 2)))
}

// count is the number of operations of e.
func count(e api.Expr) int {
	n := 1
	for _, x := range e.L {
		n += count(x)
	}
	return n
}

// again is e in memory of its own.
func again(e api.Expr) api.Expr {
	e.V.S = strings.Clone(e.V.S)
	l := make([]api.Expr, 0, len(e.L)+1)
	for _, x := range e.L {
		l = append(l, again(x))
	}
	e.L = l
	return e
}

// identical reports whether a and b are equal in all parts, whatever they are.
func identical(a, b api.Expr) bool {
	return a.Op == b.Op && a.V == b.V && a.Rel == b.Rel && a.Col == b.Col && a.N == b.N && a.S == b.S && slices.EqualFunc(a.L, b.L, identical)
}

// brief is e for a message.
func brief(e api.Expr) string {
	s, bad := expr.Text(e)
	if bad != api.OK {
		return "an expression of op " + strconv.Itoa(e.Op)
	}
	return s
}

// TestExamples: P8.1 and P8.3, the chapter's examples.
func TestExamples(t *testing.T) {
	if s, bad := expr.Text(apply(api.OpAdd, ref(0, 1), num(2))); s != "(4 R0.1 I2)" || bad != api.OK {
		t.Error(s, bad)
	}
	div := apply(api.OpDiv, num(1), num(0))
	if v, bad := expr.Eval(apply(api.OpEq, div, constant(null)), nil, nil); v != null || bad != api.ErrZero {
		t.Error(v, bad)
	}
	if v, bad := expr.Eval(apply(api.OpAnd, constant(null), apply(api.OpEq, div, num(1))), nil, nil); v != null || bad != api.ErrZero {
		t.Error(v, bad)
	}
}

// TestRight: P8.1, valid expressions.
func TestRight(t *testing.T) {
	for _, e := range append(valid(), some(1, 3000)...) {
		if !expr.Right(e) {
			t.Error("not valid:", e)
		}
	}
	for op := api.OpConst; op <= api.OpIs; op++ {
		if !expr.Right(filled(op)) {
			t.Error("op", op)
		}
		e := filled(op)
		e.L = append([]api.Expr{}, e.L...)
		if !expr.Right(e) {
			t.Error("op, with an empty list", op)
		}
	}
}

// TestRightWrong: P8.1, expressions that are not valid; every call tells so.
func TestRightWrong(t *testing.T) {
	cols := slices.Repeat([][]int{slices.Repeat([]int{api.Int}, api.MaxCols)}, 16)
	rows := slices.Repeat([][]api.Value{slices.Repeat([]api.Value{integer(1)}, api.MaxCols)}, 16)
	params, given := slices.Repeat([]int{api.Int}, 9), slices.Repeat([]api.Value{integer(1)}, 9)
	for i, e := range append(invalid(), invalidWhole()...) {
		if expr.Right(e) {
			t.Error("Right", i, e.Op)
		}
		if expr.Same(e, e) || expr.Same(e, num(1)) || expr.Same(num(1), e) {
			t.Error("Same", i, e.Op)
		}
		if s, bad := expr.Text(e); s != "" || bad != api.ErrArg {
			t.Error("Text", i, e.Op, s, bad)
		}
		if n := expr.Tables(e); n != 0 {
			t.Error("Tables", i, e.Op, n)
		}
		if expr.Safe(e) {
			t.Error("Safe", i, e.Op)
		}
		if l := expr.Split(e); len(l) != 0 {
			t.Error("Split", i, e.Op, len(l))
		}
		if k, bad := expr.Kind(e, cols, params); k != 0 || bad != api.ErrArg {
			t.Error("Kind", i, e.Op, k, bad)
		}
		if v, bad := expr.Eval(e, rows, given); v != null || bad != api.ErrArg {
			t.Error("Eval", i, e.Op, v, bad)
		}
	}
}

// TestRightNumbers: P8.1, where Rel, Col and N begin and end.
func TestRightNumbers(t *testing.T) {
	for n := -3; n < 40; n++ {
		if expr.Right(ref(n, 0)) != (n >= 0 && n <= 15) || expr.Right(ref(n, 5)) != (n >= 0 && n <= 15) {
			t.Error("Rel", n)
		}
		if expr.Right(ref(0, n)) != (n >= 0 && n <= 5) || expr.Right(ref(15, n)) != (n >= 0 && n <= 5) {
			t.Error("Col", n)
		}
		if expr.Right(param(n)) != (n >= 1 && n <= 4) {
			t.Error("N", n)
		}
	}
}

// TestRightDepth: P8.1, 20 levels and one more, along every operand.
func TestRightDepth(t *testing.T) {
	for op := api.OpAdd; op <= api.OpIs; op++ {
		for at := range operands(op) {
			e := ref(0, 0)
			for depth := 1; depth <= 25; depth++ {
				if expr.Right(e) != (depth <= 20) {
					t.Error("op", op, "operand", at, "depth", depth)
				}
				l := []api.Expr{num(1), num(1)}[:operands(op)]
				l[at] = e
				e = apply(op, l...)
			}
		}
	}
}

// TestRightSize: P8.1, 200 operations and one more; it is not the number of levels, of lists or of leaves that counts.
func TestRightSize(t *testing.T) {
	for n := 1; n < 450; n++ {
		e := tree(n)
		if count(e) != n {
			t.Fatal(count(e), n)
		}
		if expr.Right(e) != (n <= 200) {
			t.Error(n, "operations")
		}
	}
	for n, e := range map[int]api.Expr{
		199: apply(api.OpAdd, tree(197), num(1)), 200: apply(api.OpAdd, num(1), tree(198)), 201: apply(api.OpAdd, num(1), tree(199)),
		202: apply(api.OpAdd, tree(200), num(1)), 203: apply(api.OpAdd, num(1), tree(201)),
	} {
		if count(e) != n || expr.Right(e) != (n <= 200) {
			t.Error(n, count(e), expr.Right(e))
		}
	}
	if !expr.Right(doubled(7)) || expr.Right(doubled(8)) {
		t.Error("operands that stand in many places count in each")
	}
}

// TestSame: P8.1, each valid expression is the same as its like, and as no other.
func TestSame(t *testing.T) {
	l := valid()
	for i, a := range l {
		for k, b := range l {
			if k == i {
				b = again(a)
			}
			if expr.Same(a, b) != (i == k) {
				t.Error(brief(a), brief(b))
			}
		}
	}
}

// TestSameParts: P8.1, one part that differs, at each place of a tree.
func TestSameParts(t *testing.T) {
	a := apply(api.OpAnd, apply(api.OpLt, ref(2, 1), num(-5)), apply(api.OpIs, param(2)))
	for i, b := range []api.Expr{
		apply(api.OpOr, apply(api.OpLt, ref(2, 1), num(-5)), apply(api.OpIs, param(2))),
		apply(api.OpAnd, apply(api.OpLe, ref(2, 1), num(-5)), apply(api.OpIs, param(2))),
		apply(api.OpAnd, apply(api.OpLt, ref(3, 1), num(-5)), apply(api.OpIs, param(2))),
		apply(api.OpAnd, apply(api.OpLt, ref(2, 0), num(-5)), apply(api.OpIs, param(2))),
		apply(api.OpAnd, apply(api.OpLt, ref(2, 1), num(5)), apply(api.OpIs, param(2))),
		apply(api.OpAnd, apply(api.OpLt, ref(2, 1), constant(text("-5"))), apply(api.OpIs, param(2))),
		apply(api.OpAnd, apply(api.OpLt, ref(2, 1), num(-5)), apply(api.OpNot, param(2))),
		apply(api.OpAnd, apply(api.OpLt, ref(2, 1), num(-5)), apply(api.OpIs, param(3))),
		apply(api.OpAnd, apply(api.OpIs, param(2)), apply(api.OpLt, ref(2, 1), num(-5))),
		apply(api.OpAnd, apply(api.OpLt, num(-5), ref(2, 1)), apply(api.OpIs, param(2))),
		a.L[0], a.L[1],
	} {
		if expr.Same(a, b) || expr.Same(b, a) {
			t.Error(i)
		}
	}
	if !expr.Same(a, again(a)) {
		t.Error("its like")
	}
	if !expr.Same(api.Expr{Op: api.OpParam, N: 1, L: []api.Expr{}}, param(1)) {
		t.Error("an empty list")
	}
}

// TestSameWrong: P8.1, an expression that is not valid is not the same as the valid one from which it differs in one part.
func TestSameWrong(t *testing.T) {
	for op := api.OpConst; op <= api.OpIs; op++ {
		for i, f := range []func(e *api.Expr){
			func(e *api.Expr) { e.S = "t" },
			func(e *api.Expr) { e.V.S = "a" },
			func(e *api.Expr) { e.Rel += 16 },
			func(e *api.Expr) { e.Col += api.MaxCols },
			func(e *api.Expr) { e.N += api.MaxParams },
			func(e *api.Expr) { e.L = append([]api.Expr{num(1)}, e.L...) },
			func(e *api.Expr) { e.Op += api.OpIs },
		} {
			a, b := filled(op), filled(op)
			f(&b)
			for range 3 {
				if expr.Same(a, b) || expr.Same(b, a) {
					t.Error(op, i)
				}
				a, b = apply(api.OpEq, num(1), a), apply(api.OpEq, num(1), b)
			}
		}
	}
}

// TestText: P8.1, strings written by hand.
func TestText(t *testing.T) {
	for want, e := range map[string]api.Expr{
		"N": constant(null), "I0": num(0), "I17": num(17), "I-1": num(-1),
		"I9223372036854775807": num(math.MaxInt), "I-9223372036854775808": num(math.MinInt),
		"B0": constant(truth(false)), "B1": constant(truth(true)),
		"T0:": constant(text("")), "T1:a": constant(text("a")), "T3:a b": constant(text("a b")), "T2:é": constant(text("é")), "T4:\x00\xff:)": constant(text("\x00\xff:)")),
		"T40:" + strings.Repeat("xy", 20): constant(text(strings.Repeat("xy", 20))),
		"R0.0":                            ref(0, 0), "R15.5": ref(15, 5), "R2.1": ref(2, 1), "P1": param(1), "P4": param(4),
		"(4 I1 I2)": apply(api.OpAdd, num(1), num(2)), "(8 I-1)": apply(api.OpNeg, num(-1)), "(18 P2)": apply(api.OpIs, param(2)), "(17 (17 B0))": apply(api.OpNot, apply(api.OpNot, constant(truth(false)))),
		"(15 (11 R2.1 I-5) (18 P2))": apply(api.OpAnd, apply(api.OpLt, ref(2, 1), num(-5)), apply(api.OpIs, param(2))),
		"(5 (5 I1 I2) I3)":           apply(api.OpSub, apply(api.OpSub, num(1), num(2)), num(3)), "(5 I1 (5 I2 I3))": apply(api.OpSub, num(1), apply(api.OpSub, num(2), num(3))),
		"(9 T3:(8  T1:))": apply(api.OpEq, constant(text("(8 ")), constant(text(")"))),
		strings.Repeat("(8 ", 19) + "N" + strings.Repeat(")", 19): chain(api.OpNeg, 20, constant(null)),
	} {
		if s, bad := expr.Text(e); s != want || bad != api.OK {
			t.Errorf("%q, %v; want %q", s, bad, want)
		}
	}
	for op := api.OpAdd; op <= api.OpIs; op++ {
		want := "(" + strconv.Itoa(op) + " R1.0 I7)"
		if operands(op) == 1 {
			want = "(" + strconv.Itoa(op) + " R1.0)"
		}
		if s, bad := expr.Text(filled(op)); s != want || bad != api.OK {
			t.Error(op, s, bad)
		}
	}
}

// reader reads what Text wrote.
type reader struct{ s string }

// number reads a decimal number.
func (r *reader) number() int {
	n := 0
	for n < len(r.s) && (r.s[n] == '-' || r.s[n] >= '0' && r.s[n] <= '9') {
		n++
	}
	i, _ := strconv.Atoi(r.s[:n])
	r.s = r.s[n:]
	return i
}

// skip reads n bytes and returns them.
func (r *reader) skip(n int) string {
	n = min(n, len(r.s))
	s := r.s[:n]
	r.s = r.s[n:]
	return s
}

// expr reads an expression.
func (r *reader) expr() api.Expr {
	switch r.skip(1) {
	case "N":
		return constant(null)
	case "I":
		return num(r.number())
	case "B":
		return constant(truth(r.number() == 1))
	case "T":
		n := r.number()
		r.skip(1)
		return constant(text(r.skip(n)))
	case "R":
		rel := r.number()
		r.skip(1)
		return ref(rel, r.number())
	case "P":
		return param(r.number())
	case "(":
		e := api.Expr{Op: r.number()}
		for r.skip(1) == " " {
			e.L = append(e.L, r.expr())
		}
		return e
	}
	return api.Expr{}
}

// TestTextBack: P8.1 and P8.4, an expression is read back from its Text, so that no two have one Text; and its like has it, too.
func TestTextBack(t *testing.T) {
	for _, e := range append(valid(), some(2, 5000)...) {
		s, bad := expr.Text(e)
		r := reader{s}
		if back := r.expr(); bad != api.OK || r.s != "" || !identical(e, back) {
			t.Errorf("%q, %v: %v", s, bad, back)
		}
		if other, bad := expr.Text(again(e)); other != s || bad != api.OK {
			t.Errorf("%q, %q", s, other)
		}
	}
}

// TestTextSame: P8.4, over all pairs of small expressions: the same Text if and only if they are the same.
func TestTextSame(t *testing.T) {
	l := append(valid(), some(3, 500)...)
	var texts []string
	for _, e := range l {
		s, _ := expr.Text(e)
		texts = append(texts, s)
	}
	for i, a := range l {
		for k, b := range l {
			if s := expr.Same(a, b); s != (texts[i] == texts[k]) {
				t.Errorf("%q, %q: %v", texts[i], texts[k], s)
			}
		}
	}
}

// TestTables: P8.1, each table once.
func TestTables(t *testing.T) {
	for rel := range 16 {
		for col := range api.MaxCols {
			if n := expr.Tables(ref(rel, col)); n != 1<<rel {
				t.Error(rel, col, n)
			}
		}
	}
	all := ref(0, 0)
	for rel := 1; rel < 16; rel++ {
		all = apply(api.OpAdd, apply(api.OpNeg, ref(rel, 2)), all)
		if rel == 9 {
			all = apply(api.OpMul, all, all)
		}
	}
	for _, x := range []struct {
		e    api.Expr
		want int
	}{
		{num(5), 0}, {param(4), 0}, {constant(null), 0}, {apply(api.OpEq, num(1), param(1)), 0},
		{apply(api.OpEq, ref(3, 0), ref(3, 0)), 8}, {apply(api.OpEq, ref(3, 0), ref(3, 1)), 8}, {apply(api.OpEq, ref(0, 0), ref(15, 0)), 1 + 1<<15},
		{apply(api.OpAnd, apply(api.OpIs, ref(1, 0)), apply(api.OpOr, apply(api.OpNot, ref(2, 0)), apply(api.OpLt, num(2), apply(api.OpAdd, ref(1, 1), ref(4, 4))))), 2 + 4 + 16},
		{all, 1<<16 - 1},
	} {
		if n := expr.Tables(x.e); n != x.want {
			t.Error(brief(x.e), n, x.want)
		}
	}
	for op := api.OpAdd; op <= api.OpIs; op++ {
		l := []api.Expr{ref(5, 0), ref(7, 3)}[:operands(op)]
		if n := expr.Tables(apply(op, l...)); n != []int{32, 32 + 128}[len(l)-1] {
			t.Error(op, n)
		}
	}
}

// TestSafe: P8.1, which operations are safe, at the top and deep inside.
func TestSafe(t *testing.T) {
	for op := api.OpConst; op <= api.OpIs; op++ {
		e := filled(op)
		want := op < api.OpAdd || op > api.OpNeg
		for _, x := range []api.Expr{
			e, apply(api.OpIs, e), apply(api.OpNot, apply(api.OpNot, e)), apply(api.OpAnd, e, param(1)), apply(api.OpOr, param(1), e),
			apply(api.OpEq, num(1), apply(api.OpAnd, apply(api.OpIs, e), num(2))), chain(api.OpIs, 18, e),
		} {
			if expr.Safe(x) != want {
				t.Error(brief(x))
			}
		}
	}
	for _, e := range leaves() {
		if !expr.Safe(e) {
			t.Error(brief(e))
		}
	}
}

// TestSplit: P8.1, the conjuncts, in their order.
func TestSplit(t *testing.T) {
	and := func(a, b api.Expr) api.Expr { return apply(api.OpAnd, a, b) }
	a, b, c, d := apply(api.OpIs, ref(0, 0)), apply(api.OpLt, ref(1, 0), num(3)), param(1), constant(null)
	either := apply(api.OpOr, and(a, b), and(c, d))
	long, many := a, []api.Expr{a}
	for i := range api.MaxDepth - 2 {
		long = and(long, num(i))
		many = append(many, num(i))
	}
	for i, x := range []struct {
		e    api.Expr
		want []api.Expr
	}{
		{a, []api.Expr{a}}, {c, []api.Expr{c}}, {d, []api.Expr{d}}, {num(1), []api.Expr{num(1)}},
		{and(a, b), []api.Expr{a, b}}, {and(b, a), []api.Expr{b, a}}, {and(a, a), []api.Expr{a, a}},
		{and(and(a, b), c), []api.Expr{a, b, c}}, {and(a, and(b, c)), []api.Expr{a, b, c}}, {and(and(d, c), and(b, a)), []api.Expr{d, c, b, a}},
		{and(a, and(and(b, and(c, d)), a)), []api.Expr{a, b, c, d, a}},
		{either, []api.Expr{either}}, {and(either, c), []api.Expr{either, c}},
		{apply(api.OpNot, and(a, b)), []api.Expr{apply(api.OpNot, and(a, b))}}, {apply(api.OpEq, and(a, b), and(a, b)), []api.Expr{apply(api.OpEq, and(a, b), and(a, b))}},
		{apply(api.OpIs, and(a, b)), []api.Expr{apply(api.OpIs, and(a, b))}},
		{long, many},
	} {
		if l := expr.Split(x.e); !slices.EqualFunc(l, x.want, identical) {
			t.Error(i, l)
		}
	}
	for op := api.OpConst; op <= api.OpIs; op++ {
		if l := expr.Split(filled(op)); op != api.OpAnd && (len(l) != 1 || !identical(l[0], filled(op))) {
			t.Error(op, l)
		}
	}
	for _, bad := range invalid() {
		if l := expr.Split(and(and(a, b), and(c, bad))); len(l) != 0 {
			t.Error(bad.Op, l)
		}
	}
}

// kinds are all kinds.
func kinds() []int { return []int{api.Null, api.Int, api.Bool, api.Text} }

// kindOf is what Kind must return for an operation with operands of these kinds; b is Null where there is none.
func kindOf(op, a, b int) (int, api.Errno) {
	only := func(k int) bool { return (a == k || a == api.Null) && (b == k || b == api.Null) }
	switch {
	case op >= api.OpAdd && op <= api.OpNeg && only(api.Int):
		return api.Int, api.OK
	case op >= api.OpEq && op <= api.OpGe && (a == b || a == api.Null || b == api.Null):
		return api.Bool, api.OK
	case op >= api.OpAnd && op <= api.OpNot && only(api.Bool), op == api.OpIs:
		return api.Bool, api.OK
	}
	return 0, api.ErrType
}

// holdKind checks an answer of Kind.
func holdKind(t *testing.T, e api.Expr, cols [][]int, params []int, want int, wantBad api.Errno) {
	t.Helper()
	if k, bad := expr.Kind(e, cols, params); k != want || bad != wantBad {
		t.Errorf("%s, %v, %v: %d, %d; want %d, %d", brief(e), cols, params, k, bad, want, wantBad)
	}
}

// TestKindLeaves: P8.2, constants, columns and parameters.
func TestKindLeaves(t *testing.T) {
	for _, v := range values() {
		holdKind(t, constant(v), nil, nil, v.Kind, api.OK)
	}
	for _, k := range kinds() {
		holdKind(t, ref(0, 0), [][]int{{k}}, nil, k, api.OK)
		holdKind(t, ref(1, 2), [][]int{{9}, {9, 9, k}}, []int{9}, k, api.OK)
		holdKind(t, ref(15, 5), append(make([][]int, 15), []int{-1, -1, -1, -1, -1, k, -1}), nil, k, api.OK)
		holdKind(t, param(1), nil, []int{k}, k, api.OK)
		holdKind(t, param(3), [][]int{{9}}, []int{9, 9, k, 9}, k, api.OK)
		holdKind(t, param(4), nil, []int{9, 9, 9, k}, k, api.OK)
	}
}

// TestKindMissing: P8.2, columns and parameters that are not there, or whose number is not a kind.
func TestKindMissing(t *testing.T) {
	full := [][]int{{1, 2}, nil, {3}}
	for _, x := range []struct {
		e            api.Expr
		cols         [][]int
		params       []int
		wantWithFull api.Errno
	}{
		{ref(0, 0), nil, nil, api.OK}, {ref(0, 0), [][]int{}, []int{1, 1, 1, 1}, api.OK}, {ref(0, 0), [][]int{nil}, nil, api.OK}, {ref(0, 1), [][]int{{1}}, nil, api.OK},
		{ref(1, 0), full, nil, api.ErrArg}, {ref(0, 2), full, nil, api.ErrArg}, {ref(2, 1), full, nil, api.ErrArg}, {ref(3, 0), full, nil, api.ErrArg}, {ref(15, 5), full, nil, api.ErrArg}, {ref(2, 0), full[:2], nil, api.OK},
		{param(1), full, nil, api.OK}, {param(1), full, []int{}, api.OK}, {param(2), full, []int{1}, api.OK}, {param(4), full, []int{1, 1, 1}, api.ErrArg},
	} {
		holdKind(t, x.e, x.cols, x.params, 0, api.ErrArg)
		holdKind(t, apply(api.OpIs, x.e), x.cols, x.params, 0, api.ErrArg)
		if _, bad := expr.Kind(x.e, full, []int{1, 2, 3}); bad != x.wantWithFull {
			t.Error(brief(x.e), bad)
		}
	}
	for _, n := range []int{-1, 4, 5, math.MinInt, math.MaxInt} {
		holdKind(t, ref(0, 0), [][]int{{n}}, nil, 0, api.ErrArg)
		holdKind(t, param(1), nil, []int{n}, 0, api.ErrArg)
		holdKind(t, apply(api.OpIs, ref(1, 1)), [][]int{{1}, {1, n}}, nil, 0, api.ErrArg)
		holdKind(t, apply(api.OpEq, num(1), param(2)), nil, []int{1, n}, 0, api.ErrArg)
	}
}

// TestKindOperations: P8.2, each operation with operands of all kinds, of a constant, a column, a parameter or an operation.
func TestKindOperations(t *testing.T) {
	cols, params := [][]int{nil, kinds()}, kinds()
	samples := func(k int) []api.Expr {
		l := []api.Expr{constant([]api.Value{null, integer(5), truth(true), text("a")}[k]), ref(1, k), param(k + 1)}
		switch k {
		case api.Int:
			return append(l, apply(api.OpAdd, num(1), constant(null)), apply(api.OpNeg, constant(null)))
		case api.Bool:
			return append(l, apply(api.OpEq, constant(null), constant(null)), apply(api.OpIs, num(1)), apply(api.OpAnd, constant(null), constant(null)))
		}
		return l
	}
	for op := api.OpAdd; op <= api.OpIs; op++ {
		for _, a := range kinds() {
			for _, x := range samples(a) {
				if operands(op) == 1 {
					want, bad := kindOf(op, a, api.Null)
					holdKind(t, apply(op, x), cols, params, want, bad)
					continue
				}
				for _, b := range kinds() {
					want, bad := kindOf(op, a, b)
					for _, y := range samples(b) {
						holdKind(t, apply(op, x, y), cols, params, want, bad)
					}
				}
			}
		}
	}
}

// TestKindInside: P8.2, an ErrType of an operand at any depth is one of the whole, even of one that takes all kinds.
func TestKindInside(t *testing.T) {
	for _, wrong := range []api.Expr{apply(api.OpAdd, num(1), constant(text("a"))), apply(api.OpLt, num(1), constant(truth(true))), apply(api.OpNot, num(0)), apply(api.OpNeg, constant(truth(false)))} {
		for _, e := range []api.Expr{
			wrong, apply(api.OpIs, wrong), apply(api.OpIs, apply(api.OpIs, wrong)), apply(api.OpEq, constant(null), wrong), apply(api.OpEq, wrong, constant(null)),
			apply(api.OpAnd, apply(api.OpIs, num(1)), apply(api.OpIs, wrong)), apply(api.OpAnd, apply(api.OpIs, wrong), apply(api.OpIs, num(1))), chain(api.OpIs, 18, wrong),
		} {
			holdKind(t, e, nil, nil, 0, api.ErrType)
		}
	}
}

// TestKindFirst: P8.2, an ErrArg anywhere comes before an ErrType anywhere.
func TestKindFirst(t *testing.T) {
	wrong := apply(api.OpAdd, constant(text("a")), num(1))
	cols, params := [][]int{{api.Int, 7}}, []int{api.Int, -3}
	for _, missing := range []api.Expr{ref(1, 0), ref(0, 2), ref(0, 1), param(3), param(2)} {
		for _, e := range []api.Expr{
			apply(api.OpEq, wrong, missing), apply(api.OpEq, missing, wrong), apply(api.OpAnd, apply(api.OpIs, wrong), apply(api.OpIs, apply(api.OpIs, missing))),
			apply(api.OpAnd, apply(api.OpIs, apply(api.OpIs, missing)), apply(api.OpIs, wrong)), apply(api.OpAdd, constant(text("a")), missing), apply(api.OpAdd, missing, constant(text("a"))),
			apply(api.OpOr, num(1), apply(api.OpOr, wrong, missing)), apply(api.OpNot, apply(api.OpNeg, apply(api.OpIs, missing))),
		} {
			holdKind(t, e, cols, params, 0, api.ErrArg)
		}
	}
	holdKind(t, apply(api.OpEq, wrong, ref(0, 0)), cols, params, 0, api.ErrType)
	holdKind(t, apply(api.OpEq, param(1), wrong), cols, params, 0, api.ErrType)
}

// result is what chapter 1 says of an operation; b is not used where there is one operand.
func result(op int, a, b api.Value) (api.Value, api.Errno) {
	switch op {
	case api.OpAdd:
		return value.Add(a, b)
	case api.OpSub:
		return value.Sub(a, b)
	case api.OpMul:
		return value.Mul(a, b)
	case api.OpDiv:
		return value.Div(a, b)
	case api.OpNeg:
		return value.Neg(a)
	case api.OpAnd:
		return value.And(a, b)
	case api.OpOr:
		return value.Or(a, b)
	case api.OpNot:
		return value.Not(a)
	case api.OpIs:
		return truth(a.Kind == api.Null), api.OK
	}
	return value.Test(op, a, b)
}

// holdEval checks an answer of Eval.
func holdEval(t *testing.T, e api.Expr, rows [][]api.Value, params []api.Value, want api.Value, wantBad api.Errno) {
	t.Helper()
	if v, bad := expr.Eval(e, rows, params); v != want || bad != wantBad {
		t.Errorf("%s, %v, %v: %v, %d; want %v, %d", brief(e), rows, params, v, bad, want, wantBad)
	}
}

// TestEval: P8.3, values written by hand.
func TestEval(t *testing.T) {
	rows := [][]api.Value{{integer(7), null}, {}, {text("b"), truth(true), integer(-2)}}
	params := []api.Value{integer(3), null, truth(false), text("c")}
	yes, no := truth(true), truth(false)
	for _, x := range []struct {
		e    api.Expr
		want api.Value
		bad  api.Errno
	}{
		{ref(0, 0), integer(7), api.OK}, {ref(0, 1), null, api.OK}, {ref(2, 0), text("b"), api.OK}, {ref(2, 2), integer(-2), api.OK},
		{param(1), integer(3), api.OK}, {param(2), null, api.OK}, {param(4), text("c"), api.OK}, {num(9), integer(9), api.OK}, {constant(text("z")), text("z"), api.OK},
		{apply(api.OpAdd, ref(0, 0), param(1)), integer(10), api.OK}, {apply(api.OpSub, ref(0, 0), param(1)), integer(4), api.OK}, {apply(api.OpSub, param(1), ref(0, 0)), integer(-4), api.OK},
		{apply(api.OpMul, ref(0, 0), ref(2, 2)), integer(-14), api.OK}, {apply(api.OpDiv, ref(0, 0), ref(2, 2)), integer(-3), api.OK}, {apply(api.OpDiv, ref(2, 2), ref(0, 0)), integer(0), api.OK}, {apply(api.OpNeg, ref(2, 2)), integer(2), api.OK},
		{apply(api.OpAdd, ref(0, 0), ref(0, 1)), null, api.OK}, {apply(api.OpDiv, ref(0, 1), num(0)), null, api.OK}, {apply(api.OpDiv, ref(0, 0), num(0)), null, api.ErrZero},
		{apply(api.OpAdd, num(math.MaxInt), num(1)), null, api.ErrOver}, {apply(api.OpNeg, num(math.MinInt)), null, api.ErrOver}, {apply(api.OpDiv, num(math.MinInt), num(-1)), null, api.ErrOver}, {apply(api.OpMul, num(math.MaxInt), num(2)), null, api.ErrOver}, {apply(api.OpSub, num(math.MinInt), num(1)), null, api.ErrOver},
		{apply(api.OpEq, ref(2, 0), param(4)), no, api.OK}, {apply(api.OpNe, ref(2, 0), param(4)), yes, api.OK}, {apply(api.OpLt, ref(2, 0), param(4)), yes, api.OK}, {apply(api.OpLe, ref(2, 0), ref(2, 0)), yes, api.OK}, {apply(api.OpGt, ref(2, 0), param(4)), no, api.OK}, {apply(api.OpGe, param(4), ref(2, 0)), yes, api.OK},
		{apply(api.OpLt, num(2), num(2)), no, api.OK}, {apply(api.OpLe, num(3), num(2)), no, api.OK}, {apply(api.OpGt, num(3), num(2)), yes, api.OK}, {apply(api.OpGe, num(2), num(3)), no, api.OK}, {apply(api.OpEq, num(2), num(2)), yes, api.OK}, {apply(api.OpEq, num(2), param(2)), null, api.OK},
		{apply(api.OpAnd, param(2), param(3)), no, api.OK}, {apply(api.OpAnd, param(2), ref(2, 1)), null, api.OK}, {apply(api.OpOr, param(2), ref(2, 1)), yes, api.OK}, {apply(api.OpOr, param(3), param(2)), null, api.OK}, {apply(api.OpNot, param(3)), yes, api.OK}, {apply(api.OpNot, param(2)), null, api.OK},
		{apply(api.OpIs, param(2)), yes, api.OK}, {apply(api.OpIs, param(1)), no, api.OK}, {apply(api.OpIs, param(3)), no, api.OK}, {apply(api.OpIs, constant(text(""))), no, api.OK}, {apply(api.OpIs, apply(api.OpAdd, param(1), param(2))), yes, api.OK}, {apply(api.OpIs, apply(api.OpIs, param(2))), no, api.OK},
		{apply(api.OpAdd, param(1), param(4)), null, api.ErrArg}, {apply(api.OpEq, param(1), param(4)), null, api.ErrArg}, {apply(api.OpAnd, param(3), param(1)), null, api.ErrArg}, {apply(api.OpNot, num(0)), null, api.ErrArg}, {apply(api.OpNeg, param(3)), null, api.ErrArg},
		{apply(api.OpMul, apply(api.OpAdd, num(2), num(3)), apply(api.OpSub, num(10), num(4))), integer(30), api.OK}, {apply(api.OpNeg, ones(100)), integer(-100), api.OK}, {chain(api.OpNeg, 20, num(5)), integer(-5), api.OK},
	} {
		holdEval(t, x.e, rows, params, x.want, x.bad)
	}
}

// TestEvalOperations: P8.3, each operation yields what the function of chapter 1 yields, with its error, for operands of all sorts, valid or not.
func TestEvalOperations(t *testing.T) {
	l := append(values(), wrongValues()...)
	for op := api.OpAdd; op <= api.OpIs; op++ {
		for _, a := range l {
			if operands(op) == 1 {
				want, bad := result(op, a, null)
				holdEval(t, apply(op, ref(1, 1)), [][]api.Value{nil, {null, a}}, nil, want, bad)
				continue
			}
			for _, b := range l {
				want, bad := result(op, a, b)
				holdEval(t, apply(op, ref(0, 0), param(2)), [][]api.Value{{a}}, []api.Value{null, b}, want, bad)
			}
		}
	}
}

// TestEvalAsItIs: P8.3, a column or a parameter alone has the value that is there, whatever it is.
func TestEvalAsItIs(t *testing.T) {
	for _, v := range append(values(), wrongValues()...) {
		holdEval(t, ref(0, 1), [][]api.Value{{null, v}}, nil, v, api.OK)
		holdEval(t, param(1), nil, []api.Value{v, null}, v, api.OK)
		if value.Right(v) {
			holdEval(t, constant(v), nil, nil, v, api.OK)
		}
	}
}

// TestEvalMissing: P8.3, a column or a parameter that is not there, anywhere, comes before all other errors.
func TestEvalMissing(t *testing.T) {
	rows, params := [][]api.Value{{integer(1)}, nil, {integer(1), integer(2)}}, []api.Value{integer(1), integer(2)}
	zero, over := apply(api.OpDiv, num(1), num(0)), apply(api.OpNeg, num(math.MinInt))
	for _, missing := range []api.Expr{ref(0, 1), ref(1, 0), ref(2, 2), ref(3, 0), ref(15, 5), param(3), param(4)} {
		for _, e := range []api.Expr{
			missing, apply(api.OpIs, missing), apply(api.OpAdd, num(1), missing), apply(api.OpAdd, missing, num(1)), apply(api.OpAdd, zero, missing), apply(api.OpAdd, missing, zero),
			apply(api.OpEq, over, apply(api.OpNeg, missing)), apply(api.OpAnd, constant(truth(false)), apply(api.OpIs, missing)), apply(api.OpOr, constant(truth(true)), missing),
			apply(api.OpAnd, apply(api.OpIs, zero), apply(api.OpIs, apply(api.OpAdd, over, missing))), chain(api.OpIs, 20, missing),
		} {
			holdEval(t, e, rows, params, null, api.ErrArg)
		}
	}
	for _, e := range []api.Expr{ref(0, 0), param(1)} {
		holdEval(t, e, nil, nil, null, api.ErrArg)
		holdEval(t, e, [][]api.Value{}, []api.Value{}, null, api.ErrArg)
		holdEval(t, e, rows, params, integer(1), api.OK)
	}
}

// TestEvalFirst: P8.3, of the errors of operands the first one is returned, before one of the operation itself; nothing hides it.
func TestEvalFirst(t *testing.T) {
	zero, over, wrong := apply(api.OpDiv, num(1), num(0)), apply(api.OpAdd, num(math.MaxInt), num(1)), apply(api.OpNot, num(1))
	is := func(e api.Expr) api.Expr { return apply(api.OpIs, e) }
	yes, no := constant(truth(true)), constant(truth(false))
	errors := []struct {
		e   api.Expr
		bad api.Errno
	}{{zero, api.ErrZero}, {over, api.ErrOver}, {wrong, api.ErrArg}}
	for _, a := range errors {
		for op := api.OpAdd; op <= api.OpIs; op++ {
			if operands(op) == 1 {
				holdEval(t, apply(op, a.e), nil, nil, null, a.bad)
				continue
			}
			for _, b := range errors {
				holdEval(t, apply(op, a.e, b.e), nil, nil, null, a.bad)
				holdEval(t, apply(op, apply(api.OpAdd, num(1), apply(api.OpNeg, a.e)), b.e), nil, nil, null, a.bad)
				holdEval(t, apply(op, a.e, apply(api.OpAdd, b.e, num(1))), nil, nil, null, a.bad)
			}
			for _, other := range []api.Expr{num(0), yes, no, constant(null), constant(text("a"))} {
				holdEval(t, apply(op, a.e, other), nil, nil, null, a.bad)
				holdEval(t, apply(op, other, a.e), nil, nil, null, a.bad)
			}
		}
		holdEval(t, apply(api.OpAnd, no, is(a.e)), nil, nil, null, a.bad)
		holdEval(t, apply(api.OpOr, yes, is(a.e)), nil, nil, null, a.bad)
		holdEval(t, apply(api.OpAnd, is(a.e), no), nil, nil, null, a.bad)
	}
	bad := [][]api.Value{{{Kind: 9}}}
	holdEval(t, apply(api.OpAdd, zero, ref(0, 0)), bad, nil, null, api.ErrZero)
	holdEval(t, apply(api.OpAdd, apply(api.OpNeg, ref(0, 0)), zero), bad, nil, null, api.ErrArg)
	holdEval(t, apply(api.OpAdd, ref(0, 0), zero), bad, nil, null, api.ErrZero)
}

// evaluated is the value of e by the chapter's words, which has all that it refers to.
func evaluated(e api.Expr, rows [][]api.Value, params []api.Value) (api.Value, api.Errno) {
	var l [2]api.Value
	first := api.OK
	for i, x := range e.L {
		v, bad := evaluated(x, rows, params)
		if first == api.OK {
			first = bad
		}
		l[i] = v
	}
	switch {
	case first != api.OK:
		return null, first
	case e.Op == api.OpConst:
		return e.V, api.OK
	case e.Op == api.OpRef:
		return rows[e.Rel][e.Col], api.OK
	case e.Op == api.OpParam:
		return params[e.N-1], api.OK
	}
	return result(e.Op, l[0], l[1])
}

// TestEvalRandom: P8.3, random expressions of small numbers and truths, some of which have errors.
func TestEvalRandom(t *testing.T) {
	r := rand.New(rand.NewSource(4))
	small := []api.Value{null, integer(0), integer(1), integer(-2), integer(math.MaxInt), truth(false), truth(true)}
	rows := [][]api.Value{small, nil, {integer(5), null, text("a")}}
	params := []api.Value{integer(0), truth(true), null, text("b")}
	leaf := func() api.Expr {
		switch r.Intn(4) {
		case 0:
			return ref(0, r.Intn(6))
		case 1:
			return ref(2, r.Intn(3))
		case 2:
			return param(1 + r.Intn(4))
		}
		return constant(small[r.Intn(len(small))])
	}
	seen := map[api.Errno]int{}
	for range 40000 {
		e := random(r, 1+r.Intn(6), leaf, operations(api.OpAdd, api.OpIs))
		want, bad := evaluated(e, rows, params)
		holdEval(t, e, rows, params, want, bad)
		seen[bad]++
	}
	if seen[api.OK] < 100 || seen[api.ErrArg] < 100 || seen[api.ErrZero] < 100 || seen[api.ErrOver] < 100 {
		t.Error("too few of a sort", seen)
	}
}

// TestSafeEval: P8.4, a safe expression that has a kind has no error, and a value of this kind, for values of their columns' kinds.
func TestSafeEval(t *testing.T) {
	r := rand.New(rand.NewSource(5))
	cols, params := [][]int{{api.Int, api.Bool}, {api.Text, api.Null}}, []int{api.Bool, api.Int}
	l := values()
	of := func(kind int) api.Value {
		for {
			if v := l[r.Intn(len(l))]; v.Kind == kind || v.Kind == api.Null {
				return v
			}
		}
	}
	leaf := func() api.Expr {
		switch r.Intn(4) {
		case 0, 1:
			return ref(r.Intn(2), r.Intn(2))
		case 2:
			return param(1 + r.Intn(2))
		}
		return constant(l[r.Intn(len(l))])
	}
	tried, deep := 0, 0
	for range 60000 {
		e := random(r, 1+r.Intn(5), leaf, operations(api.OpEq, api.OpIs))
		kind, bad := expr.Kind(e, cols, params)
		if !expr.Safe(e) || bad != api.OK {
			continue
		}
		tried++
		if count(e) > 5 {
			deep++
		}
		rows := [][]api.Value{{of(api.Int), of(api.Bool)}, {of(api.Text), of(api.Null)}}
		given := []api.Value{of(api.Bool), of(api.Int)}
		if v, bad := expr.Eval(e, rows, given); bad != api.OK || v.Kind != kind && v.Kind != api.Null {
			t.Error(brief(e), rows, given, v, bad)
		}
	}
	if tried < 5000 || deep < 1000 {
		t.Error("too few", tried, deep)
	}
}

// roomy is e with a capacity behind the length of each list, filled with something that no call has reason to touch.
func roomy(e api.Expr) api.Expr {
	l := make([]api.Expr, 0, len(e.L)+3)
	for _, x := range e.L {
		l = append(l, roomy(x))
	}
	e.L = l
	for i := len(l); i < cap(l); i++ {
		l[:cap(l)][i] = api.Expr{Op: 77, S: "behind"}
	}
	return e
}

// untouched reports whether e is still what roomy made.
func untouched(e, original api.Expr) bool {
	if !identical(e, original) {
		return false
	}
	for _, x := range e.L[len(e.L):cap(e.L)] {
		if x.Op != 77 || x.S != "behind" || x.L != nil {
			return false
		}
	}
	for i, x := range e.L {
		if !untouched(x, original.L[i]) {
			return false
		}
	}
	return true
}

// spoil overwrites all that a result reaches, with its spare capacity.
func spoil(l []api.Expr) {
	for _, e := range l[:cap(l)] {
		spoil(e.L)
	}
	for i := range l[:cap(l)] {
		l[:cap(l)][i] = api.Expr{Op: -5, S: "spoilt"}
	}
}

// TestMemory: P3 and P4, arguments stay as they are, and results do not share memory with them, with each other, or within.
func TestMemory(t *testing.T) {
	shared := apply(api.OpLt, ref(0, 0), apply(api.OpNeg, num(1)))
	for _, original := range []api.Expr{shared, apply(api.OpAnd, shared, shared), apply(api.OpAnd, apply(api.OpAnd, shared, apply(api.OpOr, shared, shared)), apply(api.OpNot, shared))} {
		e := roomy(original)
		expr.Right(e)
		expr.Same(e, e)
		expr.Text(e)
		expr.Tables(e)
		expr.Safe(e)
		expr.Kind(e, [][]int{{api.Int}}, nil)
		expr.Eval(e, [][]api.Value{{integer(1)}}, nil)
		first, second := expr.Split(e), expr.Split(e)
		if !untouched(e, original) {
			t.Error("an argument was changed")
		}
		spoil(first)
		if !untouched(e, original) || !slices.EqualFunc(second, expr.Split(original), identical) {
			t.Error("a result shares memory")
		}
		unshared := expr.Split(original)
		for i := range unshared {
			spoil(unshared[i].L)
			for k := i + 1; k < len(unshared); k++ {
				if !identical(unshared[k], second[k]) {
					t.Error("two of one result share memory", i, k)
				}
			}
		}
		if !identical(original, e) {
			t.Error("a result shares memory with its argument")
		}
	}
}

// TestMemoryWithin: P3, one list that stands in two places of an argument stands in the result twice.
func TestMemoryWithin(t *testing.T) {
	inner := apply(api.OpNeg, num(1))
	l := expr.Split(apply(api.OpEq, inner, inner))
	l[0].L[0].L[0] = num(9)
	if !identical(l[0].L[1], inner) || !identical(inner, apply(api.OpNeg, num(1))) {
		t.Error(l)
	}
}

// TestLists: P3, columns, rows and parameters stay as they are.
func TestLists(t *testing.T) {
	cols, params := [][]int{{1, 2}, {3}}, []int{1, 2}
	rows, given := [][]api.Value{{integer(1), truth(true)}, {text("a")}}, []api.Value{integer(4), null}
	for _, e := range some(6, 300) {
		expr.Kind(e, cols, params)
		expr.Eval(e, rows, given)
	}
	if !slices.EqualFunc(cols, [][]int{{1, 2}, {3}}, slices.Equal) || !slices.Equal(params, []int{1, 2}) {
		t.Error(cols, params)
	}
	if !slices.EqualFunc(rows, [][]api.Value{{integer(1), truth(true)}, {text("a")}}, slices.Equal) || !slices.Equal(given, []api.Value{integer(4), null}) {
		t.Error(rows, given)
	}
}
