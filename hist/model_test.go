package hist_test

import (
	"math"
	"math/big"
	"math/rand"
	"reflect"
	"slices"
	"testing"

	"weathercock/api"
	"weathercock/hist"
)

// edges are numbers at which an estimate begins or ends, or a product no longer fits.
func edges() []int {
	return []int{
		math.MinInt, math.MinInt + 1, -most - 1, -most, -1 << 32, -2, -1, 0, 1, 2, 3, 7, 999999, 1000000, 1000001, math.MaxInt32, 1 << 31,
		3037000499, 3037000500, 1<<32 - 1, 1 << 32, 1<<32 + 1, 1 << 39, most / 3, most / 2, most/2 + 1, most - 1, most, most + 1, 1 << 40, 1 << 62, math.MaxInt - 1, math.MaxInt,
	}
}

// any64 is any number, often one of the edges or a small one.
func any64(r *rand.Rand) int {
	switch r.Intn(4) {
	case 0:
		return edges()[r.Intn(len(edges()))]
	case 1:
		return r.Intn(25) - 4
	case 2:
		return r.Intn(1 << (1 + r.Intn(42)))
	}
	return int(r.Uint64())
}

// clipped is the Clip of a number of any size.
func clipped(n *big.Int) *big.Int {
	switch {
	case n.Sign() < 0:
		return big.NewInt(0)
	case n.Cmp(big.NewInt(most)) > 0:
		return big.NewInt(most)
	}
	return n
}

func great(n int) *big.Int { return clipped(big.NewInt(int64(n))) }

func small(n *big.Int) int { return int(n.Int64()) }

func slowAdd(a, b int) int { return small(clipped(new(big.Int).Add(great(a), great(b)))) }

func slowMul(a, b int) int { return small(clipped(new(big.Int).Mul(great(a), great(b)))) }

func slowTimes(a, num, den int) int {
	d := great(den)
	if d.Sign() == 0 {
		d = big.NewInt(1)
	}
	return small(new(big.Int).Div(big.NewInt(int64(slowMul(a, num))), d))
}

// TestArithmetic: P13.1, against numbers of any size.
func TestArithmetic(t *testing.T) {
	check := func(a, b, c int) {
		t.Helper()
		if got, want := hist.Clip(a), small(great(a)); got != want {
			t.Fatal("Clip", a, got, want)
		}
		if got, want := hist.Add(a, b), slowAdd(a, b); got != want {
			t.Fatal("Add", a, b, got, want)
		}
		if got, want := hist.Mul(a, b), slowMul(a, b); got != want {
			t.Fatal("Mul", a, b, got, want)
		}
		if got, want := hist.Times(a, b, c), slowTimes(a, b, c); got != want {
			t.Fatal("Times", a, b, c, got, want)
		}
	}
	for _, a := range edges() {
		for _, b := range edges() {
			for _, c := range edges() {
				check(a, b, c)
			}
		}
	}
	r := rand.New(rand.NewSource(1))
	for range 20000 {
		check(any64(r), any64(r), any64(r))
	}
}

// anyValue is any value, valid or not, one of few.
func anyValue(r *rand.Rand) api.Value {
	if r.Intn(3) > 0 {
		return number(r.Intn(8) - 2)
	}
	l := ascending()
	return l[r.Intn(len(l))]
}

// anyHist is any histogram, with spare capacity.
func anyHist(r *rand.Rand) api.Hist {
	h := api.Hist{Distinct: any64(r), Nulls: any64(r)}
	wild := r.Intn(2) == 0
	for range r.Intn(8) {
		s := api.Step{Upto: anyValue(r), Many: r.Intn(50)}
		if wild {
			s.Many = any64(r)
		}
		h.Steps = append(h.Steps, s)
	}
	return h
}

// before is the order of values written out: by Kind, by N, by S.
func before(a, b api.Value) bool {
	if a.Kind != b.Kind {
		return a.Kind < b.Kind
	}
	if a.N != b.N {
		return a.N < b.N
	}
	return a.S < b.S
}

// slowSum adds up those steps of h that are wanted, by numbers of any size: clipped once, at the end, it is the same.
func slowSum(h api.Hist, wanted func(v api.Value) bool) int {
	n := new(big.Int)
	for _, s := range h.Steps {
		if wanted(s.Upto) {
			n.Add(n, great(s.Many))
		}
	}
	return small(clipped(n))
}

func slowMany(h api.Hist) int { return slowSum(h, func(api.Value) bool { return true }) }

func slowBelow(h api.Hist, v api.Value, too bool) int {
	return slowSum(h, func(w api.Value) bool { return before(w, v) || too && w == v })
}

// slowPart is the chapter's table, row by row.
func slowPart(op int, h api.Hist, v api.Value) (num, den int) {
	d, all := max(1, small(great(h.Distinct))), slowMany(h)
	rest := func(n int) int {
		if all == 0 {
			return 1
		}
		return max(0, all-n)
	}
	switch op {
	case api.OpEq:
		return 1, d
	case api.OpNe:
		return d - 1, d
	case api.OpLt:
		return slowBelow(h, v, false), max(1, all)
	case api.OpLe:
		return slowBelow(h, v, true), max(1, all)
	case api.OpGt:
		return rest(slowBelow(h, v, true)), max(1, all)
	case api.OpGe:
		return rest(slowBelow(h, v, false)), max(1, all)
	}
	return 1, 3
}

// TestModel: P13.2, any histograms and values against the slow ones.
func TestModel(t *testing.T) {
	r := rand.New(rand.NewSource(2))
	for range 10000 {
		h, v := anyHist(r), anyValue(r)
		if got, want := hist.Many(h), slowMany(h); got != want {
			t.Fatal("Many", h, got, want)
		}
		for _, too := range []bool{false, true} {
			if got, want := hist.Below(h, v, too), slowBelow(h, v, too); got != want {
				t.Fatal("Below", h, v, too, got, want)
			}
		}
		for op := -1; op < 22; op++ {
			num, den := hist.Part(op, h, v)
			if wantNum, wantDen := slowPart(op, h, v); num != wantNum || den != wantDen {
				t.Fatal("Part", op, h, v, num, den, wantNum, wantDen)
			}
		}
	}
}

// TestFractions: P13.3, no fraction is greater than 1, and opposites add up to 1.
func TestFractions(t *testing.T) {
	r := rand.New(rand.NewSource(3))
	for range 10000 {
		h, v := anyHist(r), anyValue(r)
		for op := -1; op < 22; op++ {
			if num, den := hist.Part(op, h, v); num < 0 || num > den || den < 1 || den > most {
				t.Fatal(op, h, v, num, den)
			}
		}
		for _, c := range [][2]int{{api.OpLe, api.OpGt}, {api.OpLt, api.OpGe}, {api.OpEq, api.OpNe}} {
			a, b := c[0], c[1]
			num, den := hist.Part(a, h, v)
			other, same := hist.Part(b, h, v)
			if den != same || num+other != den {
				t.Fatal(c, h, v, num, den, other, same)
			}
		}
	}
}

// TestMemory: P3 and P4, a histogram stays as it is, also behind its length, and the same is answered again, whatever was asked between, and whatever capacity there is.
func TestMemory(t *testing.T) {
	type answers struct {
		Many  int
		Below [2]int
		Parts [][2]int
	}
	answer := func(h api.Hist, v api.Value) answers {
		out := answers{Many: hist.Many(h), Below: [2]int{hist.Below(h, v, false), hist.Below(h, v, true)}}
		for op := range 22 {
			num, den := hist.Part(op, h, v)
			out.Parts = append(out.Parts, [2]int{num, den})
		}
		return out
	}
	r := rand.New(rand.NewSource(4))
	for range 1000 {
		h, v := anyHist(r), anyValue(r)
		h.Steps = append(h.Steps, api.Step{Upto: v, Many: 5}, api.Step{Upto: v, Many: 6})
		kept := slices.Clone(h.Steps)
		h.Steps = h.Steps[:len(h.Steps)-2]
		first := answer(h, v)
		answer(anyHist(r), anyValue(r))
		again := answer(api.Hist{Distinct: h.Distinct, Nulls: any64(r), Steps: slices.Clip(slices.Clone(h.Steps))}, v)
		if !reflect.DeepEqual(first, again) {
			t.Fatal(h, v, first, again)
		}
		if !slices.Equal(h.Steps[:len(kept)], kept) {
			t.Fatal(h, v, "an argument was changed")
		}
	}
}

// TestManySteps: P1, a histogram has no limit of its own.
func TestManySteps(t *testing.T) {
	var h api.Hist
	for i := range 300000 {
		h.Steps = append(h.Steps, step(i%1000, 2))
	}
	if many, less, atMost := hist.Many(h), hist.Below(h, number(10), false), hist.Below(h, number(10), true); many != 600000 || less != 6000 || atMost != 6600 {
		t.Error(many, less, atMost)
	}
	if num, den := hist.Part(api.OpGe, h, number(10)); num != 594000 || den != 600000 {
		t.Error(num, den)
	}
}
