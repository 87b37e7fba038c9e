package hist_test

import (
	"math"
	"strings"
	"testing"

	"weathercock/api"
	"weathercock/hist"
)

const most = api.Most

func number(n int) api.Value { return api.Value{Kind: api.Int, N: n} }

func truth(n int) api.Value { return api.Value{Kind: api.Bool, N: n} }

func text(s string) api.Value { return api.Value{Kind: api.Text, S: s} }

func null() api.Value { return api.Value{} }

// step is one up to a number.
func step(upto, many int) api.Step { return api.Step{Upto: number(upto), Many: many} }

// of is a histogram of unlike values in steps.
func of(distinct int, l ...api.Step) api.Hist { return api.Hist{Distinct: distinct, Steps: l} }

// TestClip: P13.1, what is less than 0 is 0, what is more than Most is Most.
func TestClip(t *testing.T) {
	for _, c := range []struct{ n, want int }{
		{math.MinInt, 0}, {-most, 0}, {-5, 0}, {-1, 0}, {0, 0}, {1, 1}, {7, 7},
		{math.MaxInt32, math.MaxInt32}, {1 << 32, 1 << 32}, {most - 1, most - 1}, {most, most}, {most + 1, most}, {math.MaxInt - 1, most}, {math.MaxInt, most},
	} {
		if got := hist.Clip(c.n); got != c.want {
			t.Error(c, got)
		}
	}
}

// TestAdd: P13.1, both are clipped, and so is the sum.
func TestAdd(t *testing.T) {
	for _, c := range []struct{ a, b, want int }{
		{0, 0, 0}, {2, 3, 5}, {-5, 3, 3}, {-5, -3, 0}, {math.MinInt, math.MinInt, 0}, {math.MinInt, 4, 4}, {math.MinInt, math.MaxInt, most},
		{most, 0, most}, {most, 1, most}, {most - 1, 1, most}, {most - 2, 1, most - 1}, {most, most, most}, {most / 2, most / 2, most}, {most/2 + 1, most / 2, most},
		{most + 7, -7, most}, {math.MaxInt, 1, most}, {math.MaxInt, math.MaxInt, most}, {math.MaxInt, -1, most},
	} {
		if got := hist.Add(c.a, c.b); got != c.want {
			t.Error(c, got)
		}
		if got := hist.Add(c.b, c.a); got != c.want {
			t.Error(c, "turned", got)
		}
	}
}

// TestMul: P13.1, both are clipped, and so is the product, where 64 bits do not hold it too.
func TestMul(t *testing.T) {
	for _, c := range []struct{ a, b, want int }{
		{0, 0, 0}, {2, 3, 6}, {1, 1, 1}, {-2, 3, 0}, {-2, -3, 0}, {math.MinInt, math.MinInt, 0}, {math.MinInt, math.MaxInt, 0}, {0, math.MaxInt, 0},
		{most, 1, most}, {most - 1, 1, most - 1}, {most + 1, 1, most}, {most, 2, most}, {most, 0, 0},
		{1000000, 1000000, most}, {999999, 1000000, 999999000000}, {1000000, 1000001, most}, {999999, 1000001, most - 1}, {most / 2, 2, most}, {most/2 - 1, 2, most - 2}, {most/2 + 1, 2, most},
		{1000000000, 1000000000, most}, {3037000500, 3037000500, most}, // just above 2^63
		{1 << 32, 1 << 32, most},             // 2^64: its lower 64 bits are 0
		{1 << 39, 1 << 39, most},             // 2^78
		{(1 << 32) + 1, (1 << 32) - 1, most}, // just below 2^64
		{1 << 33, (1 << 31) + 1, most},       // its lower 64 bits are 2^33, less than Most
		{most, most, most},                   // 10^24
		{math.MaxInt, math.MaxInt, most},     // clipped first
		{math.MaxInt, 2, most},               // wrapped round: -2
		{1 << 62, 4, most}, {math.MaxInt, 1, most},
	} {
		if got := hist.Mul(c.a, c.b); got != c.want {
			t.Error(c, got)
		}
		if got := hist.Mul(c.b, c.a); got != c.want {
			t.Error(c, "turned", got)
		}
	}
}

// TestTimes: P13.1, the product is clipped before it is divided, by 1 at least and Most at most; what is left over falls away.
func TestTimes(t *testing.T) {
	for _, c := range []struct{ a, num, den, want int }{
		{10, 1, 3, 3}, {11, 1, 3, 3}, {12, 1, 3, 4}, {10, 2, 3, 6}, {100, 7, 8, 87}, {1, 1, 2, 0}, {0, 5, 1, 0}, {5, 0, 1, 0}, {7, 1, 1, 7}, {7, 3, 2, 10},
		{10, 1, 0, 10}, {10, 1, -1, 10}, {10, 1, -3, 10}, {10, 1, math.MinInt, 10}, {-10, 1, 3, 0}, {10, -1, 3, 0}, {-10, -1, 3, 0}, {-9, -9, -9, 0},
		{most, 1, 1, most}, {most, 1, most, 1}, {most - 1, 1, most, 0}, {most, 1, most + 1, 1}, {most, 1, math.MaxInt, 1}, {math.MaxInt, 1, 2, most / 2}, {math.MaxInt, math.MaxInt, math.MaxInt, 1},
		{1000000000, 1000000000, 1000, 1000000000}, {most, 3, 3, 333333333333}, {most, most, most, 1}, {most, 2, 3, 333333333333}, {most / 2, 3, 3, 333333333333}, {1000000, 1000000, 7, 142857142857},
	} {
		if got := hist.Times(c.a, c.num, c.den); got != c.want {
			t.Error(c, got)
		}
	}
}

// TestMany: P13.2, the sum by Add: each step clipped, and the sum.
func TestMany(t *testing.T) {
	for i, c := range []struct {
		h    api.Hist
		want int
	}{
		{api.Hist{}, 0}, {of(7, []api.Step{}...), 0}, {of(7), 0}, {api.Hist{Distinct: 5, Nulls: 9}, 0},
		{of(0, step(5, 10)), 10}, {of(0, step(5, 10), step(9, 30)), 40}, {of(0, step(9, 30), step(5, 10)), 40}, {of(0, step(5, 10), step(5, 10)), 20},
		{of(0, step(9, 30), step(5, -10)), 30}, {of(0, step(5, -10), step(9, 30)), 30}, {of(0, step(5, -1)), 0}, {of(0, step(5, 0)), 0}, {of(0, step(1, math.MinInt), step(2, math.MinInt)), 0},
		{of(0, step(1, most)), most}, {of(0, step(1, most), step(2, most)), most}, {of(0, step(1, most-1), step(2, 1)), most}, {of(0, step(1, most-2), step(2, 1)), most - 1}, {of(0, step(1, most), step(2, -5)), most},
		{of(0, step(1, math.MaxInt)), most}, {of(0, step(1, math.MaxInt), step(2, math.MaxInt), step(3, 2)), most}, {of(0, step(1, math.MaxInt), step(2, math.MinInt)), most},
		{of(0, api.Step{Many: 3}, api.Step{Upto: text("x"), Many: 4}, api.Step{Upto: api.Value{Kind: -9, N: 3, S: "y"}, Many: 5}), 12},
	} {
		if got := hist.Many(c.h); got != c.want {
			t.Error(i, got, c.want)
		}
	}
}

// TestBelow: P13.2, the steps that end before a value, and those that end at it.
func TestBelow(t *testing.T) {
	up := of(0, step(5, 10), step(9, 30))
	mixed := of(0, step(9, 1), step(-3, 2), step(5, 4), step(9, 8), step(7, -100), step(5, 16), step(math.MaxInt, 32), step(math.MinInt, 64))
	great := of(0, step(1, most), step(2, most), step(3, -7), step(4, math.MaxInt))
	for _, c := range []struct {
		h            api.Hist
		v            api.Value
		less, atMost int
	}{
		{api.Hist{}, number(5), 0, 0}, {of(3), null(), 0, 0},
		{up, number(4), 0, 0}, {up, number(5), 0, 10}, {up, number(6), 10, 10}, {up, number(8), 10, 10}, {up, number(9), 10, 40}, {up, number(10), 40, 40}, {up, number(math.MinInt), 0, 0}, {up, number(math.MaxInt), 40, 40},
		{mixed, number(math.MinInt), 0, 64}, {mixed, number(-4), 64, 64}, {mixed, number(-3), 64, 66}, {mixed, number(5), 66, 86}, {mixed, number(6), 86, 86}, {mixed, number(7), 86, 86}, {mixed, number(9), 86, 95}, {mixed, number(10), 95, 95}, {mixed, number(math.MaxInt), 95, 127},
		{mixed, null(), 0, 0}, {mixed, truth(0), 127, 127}, {mixed, text(""), 127, 127},
		{great, number(0), 0, 0}, {great, number(1), 0, most}, {great, number(2), most, most}, {great, number(9), most, most},
	} {
		if less, atMost := hist.Below(c.h, c.v, false), hist.Below(c.h, c.v, true); less != c.less || atMost != c.atMost {
			t.Error(c, less, atMost)
		}
	}
}

// ascending are values, valid and not, each before the next one.
func ascending() []api.Value {
	return []api.Value{
		{Kind: math.MinInt}, {Kind: -1}, {Kind: -1, S: "x"},
		{N: math.MinInt}, null(), {S: "a"}, {N: 1},
		number(math.MinInt), number(-1), number(0), {Kind: api.Int, S: "a"}, number(1), number(math.MaxInt),
		truth(-1), truth(0), truth(1), truth(2),
		text(""), text("\x00"), text("A"), text("a"), text("a\x00"), text("ab"), text("b"), text("\xff"), text(strings.Repeat("\xff", 41)), {Kind: api.Text, N: 1},
		{Kind: 4}, {Kind: math.MaxInt, N: math.MaxInt, S: "z"},
	}
}

// TestBelowKinds: P13.2, the order is that of value.Compare for values of any Kinds, valid or not.
func TestBelowKinds(t *testing.T) {
	l := ascending()
	var h api.Hist
	for i, v := range l {
		h.Steps = append([]api.Step{{Upto: v, Many: 1 << i}}, h.Steps...)
	}
	for i, v := range l {
		if less, atMost := hist.Below(h, v, false), hist.Below(h, v, true); less != 1<<i-1 || atMost != 1<<(i+1)-1 {
			t.Error(v, less, atMost)
		}
	}
}

// part is a fraction that is asked for.
type part struct {
	op, v, num, den int
}

// checkParts asks for fractions of h.
func checkParts(t *testing.T, h api.Hist, l ...part) {
	t.Helper()
	for _, c := range l {
		if num, den := hist.Part(c.op, h, number(c.v)); num != c.num || den != c.den {
			t.Error(h, c, num, den)
		}
	}
}

// TestPart: P13.2, the table of the chapter, for a histogram with rows.
func TestPart(t *testing.T) {
	for _, h := range []api.Hist{of(8, step(5, 10), step(9, 30)), of(8, step(9, 30), step(7, -3), step(5, 10))} {
		h.Nulls = 77
		checkParts(t, h,
			part{api.OpEq, 5, 1, 8}, part{api.OpEq, 99, 1, 8}, part{api.OpNe, 5, 7, 8}, part{api.OpNe, 99, 7, 8},
			part{api.OpLt, 4, 0, 40}, part{api.OpLt, 5, 0, 40}, part{api.OpLt, 6, 10, 40}, part{api.OpLt, 9, 10, 40}, part{api.OpLt, 10, 40, 40},
			part{api.OpLe, 4, 0, 40}, part{api.OpLe, 5, 10, 40}, part{api.OpLe, 6, 10, 40}, part{api.OpLe, 9, 40, 40}, part{api.OpLe, 10, 40, 40},
			part{api.OpGt, 4, 40, 40}, part{api.OpGt, 5, 30, 40}, part{api.OpGt, 6, 30, 40}, part{api.OpGt, 9, 0, 40}, part{api.OpGt, 10, 0, 40},
			part{api.OpGe, 4, 40, 40}, part{api.OpGe, 5, 40, 40}, part{api.OpGe, 6, 30, 40}, part{api.OpGe, 9, 30, 40}, part{api.OpGe, 10, 0, 40},
		)
	}
}

// TestPartDistinct: P13.2, D is Distinct, 1 at least and Most at most, whatever the steps are.
func TestPartDistinct(t *testing.T) {
	for _, c := range []struct{ distinct, want int }{
		{math.MinInt, 1}, {-1, 1}, {0, 1}, {1, 1}, {2, 2}, {20, 20}, {most - 1, most - 1}, {most, most}, {most + 1, most}, {math.MaxInt, most},
	} {
		for _, h := range []api.Hist{of(c.distinct), of(c.distinct, step(5, 10)), of(c.distinct, step(5, math.MaxInt), step(1, math.MinInt))} {
			checkParts(t, h, part{api.OpEq, 5, 1, c.want}, part{api.OpNe, 5, c.want - 1, c.want})
		}
	}
}

// TestPartNone: P13.2, no rows: none of them are less, all of them are greater.
func TestPartNone(t *testing.T) {
	for _, h := range []api.Hist{{}, of(8), of(8, step(5, 0)), of(8, step(5, -4), step(6, math.MinInt)), {Nulls: 12, Steps: []api.Step{}}} {
		for _, v := range []int{math.MinInt, 4, 5, 6, 7, math.MaxInt} {
			checkParts(t, h, part{api.OpLt, v, 0, 1}, part{api.OpLe, v, 0, 1}, part{api.OpGt, v, 1, 1}, part{api.OpGe, v, 1, 1})
		}
	}
	checkParts(t, of(8, step(5, 1)), part{api.OpGt, 5, 0, 1}, part{api.OpGe, 5, 1, 1}, part{api.OpLe, 5, 1, 1}, part{api.OpLt, 5, 0, 1})
}

// TestPartMost: P13.2, sums that stay at Most.
func TestPartMost(t *testing.T) {
	checkParts(t, of(8, step(5, most), step(9, most)),
		part{api.OpLt, 5, 0, most}, part{api.OpLe, 5, most, most}, part{api.OpLt, 9, most, most}, part{api.OpLe, 9, most, most},
		part{api.OpGt, 4, most, most}, part{api.OpGt, 5, 0, most}, part{api.OpGe, 5, most, most}, part{api.OpGe, 9, 0, most}, part{api.OpGt, 9, 0, most},
	)
	checkParts(t, of(8, step(5, 3), step(9, math.MaxInt)), part{api.OpLe, 5, 3, most}, part{api.OpGt, 5, most - 3, most}, part{api.OpGt, 9, 0, most})
}

// TestPartOther: P13.2, any other op is 1 of 3.
func TestPartOther(t *testing.T) {
	for _, h := range []api.Hist{{}, of(8, step(5, 10), step(9, 30))} {
		for _, op := range []int{math.MinInt, -1, 0, 1, 2, 3, api.OpAdd, api.OpSub, api.OpMul, api.OpDiv, api.OpNeg, api.OpAnd, api.OpOr, api.OpNot, api.OpIs, api.OpName, 20, 1<<32 + api.OpEq, math.MaxInt} {
			checkParts(t, h, part{op, 5, 1, 3})
		}
	}
}

// TestPartKinds: P13.2, what is compared with may be of any Kind, NULL too.
func TestPartKinds(t *testing.T) {
	h := of(3, api.Step{Upto: text("b"), Many: 1}, api.Step{Upto: truth(1), Many: 2}, api.Step{Upto: number(4), Many: 4}, api.Step{Upto: null(), Many: 8})
	for _, c := range []struct {
		op       int
		v        api.Value
		num, den int
	}{
		{api.OpEq, null(), 1, 3}, {api.OpNe, null(), 2, 3}, {api.OpLt, null(), 0, 15}, {api.OpLe, null(), 8, 15}, {api.OpGt, null(), 7, 15}, {api.OpGe, null(), 15, 15},
		{api.OpEq, text("b"), 1, 3}, {api.OpLt, text("b"), 14, 15}, {api.OpLe, text("a"), 14, 15}, {api.OpGt, text("b"), 0, 15}, {api.OpGe, text("a"), 1, 15},
		{api.OpLt, truth(1), 12, 15}, {api.OpLe, truth(1), 14, 15}, {api.OpGt, truth(0), 3, 15}, {api.OpGe, number(4), 7, 15},
		{api.OpLe, api.Value{Kind: -1}, 0, 15}, {api.OpGt, api.Value{Kind: 9}, 0, 15}, {api.OpLt, api.Value{Kind: api.Bool, N: 2}, 14, 15},
	} {
		if num, den := hist.Part(c.op, h, c.v); num != c.num || den != c.den {
			t.Error(c, num, den)
		}
	}
}
