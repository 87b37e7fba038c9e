package card_test

import (
	"math"
	"math/big"
	"math/rand"
	"reflect"
	"slices"
	"testing"

	"weathercock/api"
	"weathercock/card"
	"weathercock/expr"
	"weathercock/hist"
	"weathercock/sign"
)

func pick[T any](r *rand.Rand, l ...T) T { return l[r.Intn(len(l))] }

// anyNumber is any number, mostly a small one.
func anyNumber(r *rand.Rand) int {
	if r.Intn(3) > 0 {
		return r.Intn(200)
	}
	return pick(r, 0, 0, 1, 1, 2, 3, 4, 5, 15, 16, -1, -2, 1000, 1000000, 1<<32, 1<<40, most-1, most, most+1, 1<<62, math.MaxInt, math.MinInt)
}

// anyStats are statistics of any tables, with spare capacity.
func anyStats(r *rand.Rand) []api.Stat {
	var out []api.Stat
	for range r.Intn(6) {
		s := api.Stat{Rows: anyNumber(r)}
		for range r.Intn(5) {
			h := api.Hist{Distinct: anyNumber(r), Nulls: anyNumber(r)}
			for range r.Intn(4) {
				h.Steps = append(h.Steps, api.Step{Upto: anyConstant(r).V, Many: anyNumber(r)})
			}
			s.Hists = append(s.Hists, h)
		}
		out = append(out, s)
	}
	return out
}

func anyConstant(r *rand.Rand) api.Expr {
	return pick(r, null(), number(r.Intn(6)), number(r.Intn(6)), number(r.Intn(6)), number(math.MinInt), number(math.MaxInt), truth(0), truth(1), word(""), word("a"))
}

func anyLeaf(r *rand.Rand, rels int) api.Expr {
	if r.Intn(8) == 0 {
		return param(1 + r.Intn(4))
	}
	return pick(r, ref(r.Intn(rels), r.Intn(3)), ref(r.Intn(rels), r.Intn(3)), anyConstant(r))
}

// anyRight is a valid expression, mostly a comparison or a question for NULL.
func anyRight(r *rand.Rand, rels int) api.Expr {
	switch r.Intn(8) {
	case 0:
		return of(api.OpIs, anyLeaf(r, rels))
	case 1:
		return of(pick(r, api.OpNot, api.OpNeg, api.OpIs), anyRight(r, rels))
	case 2:
		return of(api.OpAdd+r.Intn(4), anyLeaf(r, rels), anyLeaf(r, rels))
	case 3:
		return of(api.OpEq+r.Intn(8), anyRight(r, rels), anyLeaf(r, rels))
	case 4:
		return anyLeaf(r, rels)
	}
	return of(api.OpEq+r.Intn(6), anyLeaf(r, rels), anyLeaf(r, rels))
}

// anyBlock is a block whose signatures there are.
func anyBlock(r *rand.Rand) api.Block {
	b := api.Block{Core: 1 + r.Intn(4)}
	for range b.Core + r.Intn(3) {
		b.Tables = append(b.Tables, pick(r, r.Intn(4), r.Intn(4), r.Intn(8), anyNumber(r)))
	}
	for range r.Intn(7) {
		e := anyRight(r, b.Core+r.Intn(2))
		b.Conds = append(b.Conds, e)
		if r.Intn(3) == 0 {
			b.Conds = append(b.Conds, exchanged(e))
		}
	}
	return b
}

// exchanged is e, written the other way round, if that asks the same.
func exchanged(e api.Expr) api.Expr {
	op := e.Op
	switch op {
	case api.OpLt, api.OpLe:
		op += 2
	case api.OpGt, api.OpGe:
		op -= 2
	case api.OpEq, api.OpNe:
	default:
		return e
	}
	return of(op, e.L[1], e.L[0])
}

// slowStat are the statistics of table i, asked one by one.
func slowStat(b api.Block, stats []api.Stat, i int) api.Stat {
	for k, t := range b.Tables {
		for n, s := range stats {
			if k == i && n == t {
				return s
			}
		}
	}
	return api.Stat{Rows: 10}
}

func slowHist(b api.Block, stats []api.Stat, e api.Expr) api.Hist {
	for i, h := range slowStat(b, stats, e.Rel).Hists {
		if i == e.Col {
			return h
		}
	}
	return api.Hist{}
}

func clipped(n int) int {
	switch {
	case n < 0:
		return 0
	case n > most:
		return most
	}
	return n
}

// slowPart is Part of a valid expression, as it is written, without its normal form.
func slowPart(e api.Expr, b api.Block, stats []api.Stat) (num, den int) {
	ref := func(i int) bool { return len(e.L) > i && e.L[i].Op == api.OpRef }
	fixed := func(i int) bool {
		return len(e.L) > i && e.L[i].Op == api.OpConst && e.L[i].V != (api.Value{})
	}
	mirror := map[int]int{api.OpEq: api.OpEq, api.OpNe: api.OpNe, api.OpLt: api.OpGt, api.OpLe: api.OpGe, api.OpGt: api.OpLt, api.OpGe: api.OpLe}
	other, compares := mirror[e.Op]
	if compares && ref(0) && fixed(1) {
		return hist.Part(e.Op, slowHist(b, stats, e.L[0]), e.L[1].V)
	}
	if compares && fixed(0) && ref(1) {
		return hist.Part(other, slowHist(b, stats, e.L[1]), e.L[0].V)
	}
	if e.Op == api.OpEq && ref(0) && ref(1) {
		l := []int{1, clipped(slowHist(b, stats, e.L[0]).Distinct), clipped(slowHist(b, stats, e.L[1]).Distinct)}
		return 1, slices.Max(l)
	}
	if e.Op == api.OpIs && ref(0) {
		rows := clipped(slowStat(b, stats, e.L[0].Rel).Rows)
		num, den = clipped(slowHist(b, stats, e.L[0]).Nulls), rows
		if num > rows {
			num = rows
		}
		if den == 0 {
			den = 1
		}
		return num, den
	}
	return 1, 3
}

// TestPartModel: P14.1, random expressions against the slow one.
func TestPartModel(t *testing.T) {
	r := rand.New(rand.NewSource(1))
	thirds := 0
	for range 50000 {
		b, stats := anyBlock(r), anyStats(r)
		e := anyRight(r, 6)
		num, den := card.Part(e, b, stats)
		wantNum, wantDen := slowPart(e, b, stats)
		if num != wantNum || den != wantDen {
			t.Fatal(e, b, stats, num, den, wantNum, wantDen)
		}
		if num < 0 || den < 1 || num > den || den > most {
			t.Fatal(e, b, stats, num, den)
		}
		if num == 1 && den == 3 {
			thirds++
		}
	}
	if thirds < 5000 || thirds > 45000 {
		t.Error("too few of one sort", thirds)
	}
}

// limit is n as an estimate.
func limit(n *big.Int) *big.Int {
	if n.Cmp(big.NewInt(most)) > 0 {
		return big.NewInt(most)
	}
	return n
}

// slowEst is Est where nothing is known, in numbers of any size.
func slowEst(t *testing.T, b api.Block, set int, stats []api.Stat) int {
	n := big.NewInt(1)
	for i := range b.Core {
		if set&(1<<i) != 0 {
			n = limit(n.Mul(n, big.NewInt(int64(clipped(slowStat(b, stats, i).Rows)))))
		}
	}
	byText := map[string]api.Expr{}
	for _, e := range b.Conds {
		x, err := sign.Normal(e)
		if err != api.OK {
			t.Fatal(e, err)
		}
		s, _ := expr.Text(x)
		byText[s] = e
	}
	var texts []string
	for s := range byText {
		texts = append(texts, s)
	}
	slices.Sort(texts)
	for _, s := range texts {
		e := byText[s]
		all := expr.Tables(e)
		if all == 0 || all|set != set {
			continue
		}
		num, den := slowPart(e, b, stats)
		n = limit(n.Mul(n, big.NewInt(int64(num))))
		n.Div(n, big.NewInt(int64(den)))
	}
	return int(n.Int64())
}

// anyKnown is what may be known of b, and of other blocks.
func anyKnown(t *testing.T, r *rand.Rand, b api.Block) []api.Known {
	out := []api.Known{}
	for range r.Intn(5) {
		s, err := sign.Of(b, 1+r.Intn(1<<b.Core-1))
		if err != api.OK {
			t.Fatal(b, err)
		}
		out = append(out, api.Known{Sign: pick(r, s, s, s, s+" ", ""), Many: anyNumber(r)})
	}
	return out
}

// TestEstModel: P14.2, random blocks against the slow one: Base, All and Est.
func TestEstModel(t *testing.T) {
	r := rand.New(rand.NewSource(2))
	told, computed := 0, 0
	for range 10000 {
		b, stats := anyBlock(r), anyStats(r)
		known := anyKnown(t, r, b)
		base := []int{}
		for i := range b.Core {
			base = append(base, clipped(slowStat(b, stats, i).Rows))
		}
		if got := card.Base(b, stats); !slices.Equal(got, base) {
			t.Fatal(b, stats, got, base)
		}
		want := []int{0}
		for set := 1; set < 1<<b.Core; set++ {
			s, err := sign.Of(b, set)
			if err != api.OK {
				t.Fatal(b, err)
			}
			n, last := 0, -1
			for i, k := range known {
				if k.Sign == s {
					n, last = clipped(k.Many), i
				}
			}
			if last < 0 {
				n = slowEst(t, b, set, stats)
				computed++
			} else {
				told++
			}
			want = append(want, n)
			if got, err := card.Est(b, set, stats, known); got != n || err != api.OK {
				t.Fatal(b, set, stats, known, got, err, n)
			}
		}
		if got, err := card.All(b, stats, known); !slices.Equal(got, want) || err != api.OK {
			t.Fatal(b, stats, known, got, err, want)
		}
	}
	if told < 5000 || computed < 5000 {
		t.Error("too few of one sort", told, computed)
	}
}

// TestWritten: P14.1 and P14.2, the way in which conditions are written, their order and repetitions have no influence.
func TestWritten(t *testing.T) {
	r := rand.New(rand.NewSource(3))
	for range 5000 {
		b, stats := anyBlock(r), anyStats(r)
		other := b
		other.Conds = nil
		for _, e := range b.Conds {
			num, den := card.Part(e, b, stats)
			if n, d := card.Part(exchanged(e), b, stats); n != num || d != den {
				t.Fatal(e, b, stats, num, den, n, d)
			}
			for range 1 + r.Intn(2) {
				other.Conds = append(other.Conds, pick(r, e, exchanged(e)))
			}
		}
		r.Shuffle(len(other.Conds), func(i, k int) { other.Conds[i], other.Conds[k] = other.Conds[k], other.Conds[i] })
		known := anyKnown(t, r, b)
		first, err := card.All(b, stats, known)
		again, otherErr := card.All(other, stats, known)
		if err != api.OK || otherErr != api.OK || !slices.Equal(first, again) {
			t.Fatal(b, other, stats, known, first, again, err, otherErr)
		}
	}
}

// TestAny: P1 and P2, every call ends and none panics, whatever it is given, and Est and All have an error exactly if there is no signature.
func TestAny(t *testing.T) {
	r, bad := rand.New(rand.NewSource(4)), wrong()
	for range 20000 {
		b := api.Block{Core: pick(r, 1, 2, 3, 4, anyNumber(r))}
		for range r.Intn(7) {
			b.Tables = append(b.Tables, anyNumber(r))
		}
		for range r.Intn(4) {
			b.Conds = append(b.Conds, pick(r, anyRight(r, 16), anyRight(r, 4), anyRight(r, 2), anyRight(r, 2), of(r.Intn(22)-1, anyRight(r, 16), pick(r, bad...)), pick(r, bad...)))
		}
		stats, set := anyStats(r), pick(r, 1, 2, 3, anyNumber(r))
		known := []api.Known{{Sign: "", Many: 3}, {Sign: "S0 ", Many: anyNumber(r)}}
		for _, e := range append(b.Conds, bad...) {
			if num, den := card.Part(e, b, stats); num < 0 || num > den || den < 1 || !expr.Right(e) && (num != 1 || den != 3) {
				t.Fatal(e, b, stats, num, den)
			}
		}
		isCore := b.Core >= 1 && b.Core <= api.MaxCore && len(b.Tables) >= b.Core
		if l := card.Base(b, stats); isCore && len(l) != b.Core || !isCore && len(l) != 0 {
			t.Fatal(b, stats, l)
		}
		_, want := sign.Of(b, set)
		if n, err := card.Est(b, set, stats, known); err != want || n < 0 || n > most || err != api.OK && n != 0 {
			t.Fatal(b, set, stats, n, err, want)
		}
		_, want = sign.Of(b, 1)
		if l, err := card.All(b, stats, known); err != want || err == api.OK && len(l) != 1<<b.Core || err != api.OK && len(l) != 0 {
			t.Fatal(b, stats, l, err, want)
		}
	}
}

// roomy is v in memory of its own, each list with room for two more elements.
func roomy(v reflect.Value) reflect.Value {
	out := reflect.New(v.Type()).Elem()
	switch v.Kind() {
	case reflect.Struct:
		for i := range v.NumField() {
			out.Field(i).Set(roomy(v.Field(i)))
		}
	case reflect.Slice:
		out.Set(reflect.MakeSlice(v.Type(), v.Len()+2, v.Len()+2))
		for i := range v.Len() {
			out.Index(i).Set(roomy(v.Index(i)))
		}
		out.Set(out.Slice(0, v.Len()))
	default:
		out.Set(v)
	}
	return out
}

// whole is v with all that is behind its lengths.
func whole(v reflect.Value) reflect.Value {
	out := reflect.New(v.Type()).Elem()
	switch v.Kind() {
	case reflect.Struct:
		for i := range v.NumField() {
			out.Field(i).Set(whole(v.Field(i)))
		}
	case reflect.Slice:
		v = v.Slice(0, v.Cap())
		out.Set(reflect.MakeSlice(v.Type(), v.Len(), v.Len()))
		for i := range v.Len() {
			out.Index(i).Set(whole(v.Index(i)))
		}
	default:
		out.Set(v)
	}
	return out
}

// given are the arguments of all calls.
type given struct {
	B     api.Block
	Stats []api.Stat
	Known []api.Known
}

type answers struct {
	Parts     [][2]int
	Base, All []int
	Ests      []int
}

func answer(g given) answers {
	var out answers
	for _, e := range g.B.Conds {
		num, den := card.Part(e, g.B, g.Stats)
		out.Parts = append(out.Parts, [2]int{num, den})
	}
	out.Base = card.Base(g.B, g.Stats)
	out.All, _ = card.All(g.B, g.Stats, g.Known)
	for set := range 1 << g.B.Core {
		n, _ := card.Est(g.B, set, g.Stats, g.Known)
		out.Ests = append(out.Ests, n)
	}
	return out
}

// TestMemory: P3 and P4, arguments stay as they are, also behind their lengths; what is behind them is not looked at; results are new memory; the same is answered again, whatever was asked between.
func TestMemory(t *testing.T) {
	r := rand.New(rand.NewSource(5))
	for range 1500 {
		b := anyBlock(r)
		plain := given{b, anyStats(r), anyKnown(t, r, b)}
		g := roomy(reflect.ValueOf(plain)).Interface().(given)
		before := whole(reflect.ValueOf(g)).Interface()
		first, second := answer(g), answer(g)
		answer(given{anyBlock(r), anyStats(r), nil})
		for _, l := range [][]int{first.Base, first.All} {
			l = l[:cap(l)]
			for i := range l {
				l[i] = -7
			}
		}
		again := answer(g)
		if !reflect.DeepEqual(whole(reflect.ValueOf(g)).Interface(), before) {
			t.Fatal(plain, "an argument was changed")
		}
		if !reflect.DeepEqual(second, again) || !reflect.DeepEqual(again, answer(plain)) || !slices.Equal(again.Ests, again.All) {
			t.Fatal(plain, second, again)
		}
	}
}

// TestMany: P1, lists have no limits of their own.
func TestMany(t *testing.T) {
	var stats []api.Stat
	var known []api.Known
	b := tables([]int{99999, 5, 100000, 7})
	for i := range 100000 {
		stats = append(stats, stat(i))
		known = append(known, api.Known{Sign: "S5 ", Many: i})
	}
	for i := range 2000 {
		b.Conds = append(b.Conds, of(api.OpGt, ref(0, 0), number(i/2)))
	}
	checkAll(t, b, stats, known, 0, 99999, 99999, 499995, 10, 999990, 50, 4999950, 7, 699993, 35, 3499965, 70, 6999930, 350, 34999650)
}
