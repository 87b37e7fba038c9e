package card_test

import (
	"math"
	"slices"
	"testing"

	"weathercock/api"
	"weathercock/card"
	"weathercock/sign"
)

// TestBase: P14.2, the rows of the first Core tables.
func TestBase(t *testing.T) {
	stats := []api.Stat{stat(7), stat(0), stat(-3), stat(math.MinInt), stat(most), stat(most + 1), stat(math.MaxInt), {Rows: 12, Hists: []api.Hist{stepped()}}}
	for _, x := range []struct {
		core int
		l    []int
		want []int
	}{
		{1, []int{0}, []int{7}}, {1, []int{0, 7}, []int{7}}, {2, []int{0, 7}, []int{7, 12}}, {2, []int{7, 0, 4}, []int{12, 7}}, {3, []int{7, 7, 7}, []int{12, 12, 12}}, {4, []int{0, 1, 2, 3}, []int{7, 0, 0, 0}}, {4, []int{4, 5, 6, 7, 0, 0}, []int{most, most, most, 12}},
		{4, []int{8, -1, math.MaxInt, math.MinInt}, []int{10, 10, 10, 10}}, {4, []int{7, 8, 7, 8}, []int{12, 10, 12, 10}}, {2, []int{9, 0, 1}, []int{10, 7}},
		{0, []int{0}, nil}, {0, nil, nil}, {-1, []int{0}, nil}, {5, []int{0, 0, 0, 0, 0}, nil}, {5, []int{0, 0, 0, 0, 0, 0}, nil}, {math.MaxInt, []int{0, 0}, nil}, {math.MinInt, []int{0, 0}, nil}, {1 << 32, []int{0, 0}, nil},
		{1, nil, nil}, {2, []int{0}, nil}, {3, []int{0, 0}, nil}, {4, []int{0, 0, 0}, nil}, {4, []int{0, 0, 0, 0}[:3], nil},
	} {
		if got := card.Base(api.Block{Tables: x.l, Core: x.core}, stats); !slices.Equal(got, x.want) {
			t.Error(x, got)
		}
	}
	if got := card.Base(tables([]int{0, 1, 2}), nil); !slices.Equal(got, []int{10, 10, 10}) {
		t.Error(got)
	}
	// Base is of statistics alone, and the conditions may be anything.
	if got := card.Base(tables([]int{0, 7}, wrong()...), stats); !slices.Equal(got, []int{7, 12}) {
		t.Error(got)
	}
}

func checkEst(t *testing.T, b api.Block, set int, stats []api.Stat, known []api.Known, want int) {
	t.Helper()
	if n, err := card.Est(b, set, stats, known); n != want || err != api.OK {
		t.Error(b, set, n, err, want)
	}
}

func checkAll(t *testing.T, b api.Block, stats []api.Stat, known []api.Known, want ...int) {
	t.Helper()
	if l, err := card.All(b, stats, known); !slices.Equal(l, want) || err != api.OK {
		t.Error(b, l, err, want)
	}
	for set := 1; set < len(want); set++ {
		checkEst(t, b, set, stats, known, want[set])
	}
}

// TestExamples: P14.2, the chapter's.
func TestExamples(t *testing.T) {
	b := tables([]int{0, 1}, of(api.OpEq, ref(0, 0), ref(1, 0)))
	checkEst(t, b, 3, []api.Stat{stat(100, unlike(50)), stat(100, unlike(20))}, nil, 200)
	checkEst(t, b, 3, nil, nil, 100)
}

// TestEst: P14.2, the product of the rows, and the fractions of the conditions that refer to the set and to no other table.
func TestEst(t *testing.T) {
	stats := []api.Stat{stat(50, stepped(), unlike(3)), stat(4, unlike(2)), stat(7, unlike(6))}
	b := tables([]int{0, 2, 1},
		of(api.OpEq, ref(0, 0), ref(2, 0)),     // 1 of 8, of 0 and 2
		of(api.OpGt, number(9), ref(0, 0)),     // 10 of 40, of 0
		of(api.OpEq, number(2), ref(1, 0)),     // 1 of 6, of 1
		of(api.OpNot, of(api.OpIs, ref(2, 0))), // 1 of 3, of 2
		of(api.OpLt, number(1), number(2)),     // of no table
		param(1),                               // of no table
		of(api.OpEq, ref(0, 1), ref(3, 0)),     // of a table behind the core
		of(api.OpIs, ref(15, 0)),               // of a table that there is not
		of(api.OpLe, ref(0, 1), ref(1, 1)),     // 1 of 3, of 0 and 1
		of(api.OpOr, of(api.OpIs, ref(0, 0)), of(api.OpEq, ref(1, 0), ref(2, 0))), // 1 of 3, of all
	)
	b.After, b.Unsafe, b.On = b.Conds, b.Conds, b.Conds
	b.Tables = append(b.Tables, 0)
	// 50/4 = 12; 7/6 = 1; 50*7 = 350, /4 = 87, /3 = 29, /6 = 4; 4/3 = 1.
	// 50*4 = 200, /4 = 50, /3 = 16, /8 = 2; 7*4 = 28, /3 = 9, /6 = 1; 50*7*4 = 1400, in the order of the texts: /4 = 350, /3 = 116, /3 = 38, /3 = 12, /6 = 2, /8 = 0.
	checkAll(t, b, stats, nil, 0, 12, 1, 4, 1, 2, 1, 0)
	stats[0].Rows, stats[1].Rows, stats[2].Rows = 5000, 400, 700
	// 5000/4 = 1250; 700/6 = 116; 3500000/4/3/6 = 48611; 400/3 = 133; 2000000/4/3/8 = 20833; 280000/3/6 = 15555; 1400000000/4/3/3/3/6/8 = 270061.
	checkAll(t, b, stats, nil, 0, 1250, 116, 48611, 133, 20833, 15555, 270061)
}

// TestEstOrder: P14.2, the fractions are applied in the ascending order of the conditions' texts, each rounded down, all after the product of the rows.
func TestEstOrder(t *testing.T) {
	h := api.Hist{Distinct: 2, Steps: []api.Step{{Upto: number(5).V, Many: 3}, {Upto: number(9).V, Many: 1}}}
	half, three := of(api.OpEq, ref(0, 0), number(1)), of(api.OpLe, ref(0, 0), number(5)) // (9 I1 R0.0), 1 of 2; (12 R0.0 I5), 3 of 4
	for _, l := range [][]api.Expr{{half, three}, {three, half}, {of(api.OpGe, number(5), ref(0, 0)), of(api.OpEq, number(1), ref(0, 0))}} {
		checkEst(t, tables([]int{0}, l...), 1, []api.Stat{stat(3, h)}, nil, 1) // 3 * 3 / 4 = 2, / 2 = 1: the other way round it were 0
	}
	// By the texts as they are written, (13 R0.0 I4) came behind (12 ..), and its normal form, (11 I4 R0.0), comes before.
	h = api.Hist{Distinct: 2, Steps: []api.Step{{Upto: number(3).V, Many: 1}, {Upto: number(5).V, Many: 1}, {Upto: number(9).V, Many: 2}}} // > 4: 3 of 4; <= 5: 2 of 4
	for _, l := range [][]api.Expr{{of(api.OpGt, ref(0, 0), number(4)), of(api.OpLe, ref(0, 0), number(5))}, {of(api.OpLe, ref(0, 0), number(5)), of(api.OpGt, ref(0, 0), number(4))}} {
		checkEst(t, tables([]int{0}, l...), 1, []api.Stat{stat(3, h)}, nil, 1) // 3 * 3 / 4 = 2, * 2 / 4 = 1; the other way round 1, 0
	}
	// 10^9 * 10^9 stays at 10^12 before it is halved.
	stats := []api.Stat{stat(1000000000, unlike(2)), stat(1000000000)}
	checkAll(t, tables([]int{0, 1}, of(api.OpEq, ref(0, 0), number(1))), stats, nil, 0, 500000000, 1000000000, most/2)
}

// TestEstTexts: P14.2, the order is that of texts, not of numbers: 17 is before 9.
func TestEstTexts(t *testing.T) {
	h := api.Hist{Distinct: 2, Nulls: 2}
	not, same, is := of(api.OpNot, of(api.OpIs, ref(0, 0))), of(api.OpEq, ref(0, 0), number(1)), of(api.OpIs, ref(0, 0)) // 1 of 3, 1 of 2, 2 of 3: (17 .., (9 .., (18 ..
	checkEst(t, tables([]int{0}, same, is), 1, []api.Stat{stat(3, h)}, nil, 1)                                           // 3 * 2 / 3 = 2, / 2 = 1; the other way round 1, 0
	checkEst(t, tables([]int{0}, is, same, not), 1, []api.Stat{stat(3, h)}, nil, 0)
}

// TestEstOnce: P14.2, a condition counts once, however often and in whatever way it is written.
func TestEstOnce(t *testing.T) {
	stats := []api.Stat{stat(100, stepped()), stat(100, unlike(5))}
	lt, eq := of(api.OpLt, ref(0, 0), number(9)), of(api.OpEq, ref(0, 0), ref(1, 0))
	checkAll(t, tables([]int{0, 1}, lt, eq, of(api.OpGt, number(9), ref(0, 0)), of(api.OpEq, ref(1, 0), ref(0, 0)), lt, eq), stats, nil, 0, 25, 100, 312)
	checkAll(t, tables([]int{0, 1}, lt, eq, of(api.OpLe, ref(0, 0), number(8))), stats, nil, 0, 6, 100, 78) // unlike conditions count both
	checkAll(t, tables([]int{0, 1}, lt, of(api.OpLt, ref(1, 0), number(9))), stats, nil, 0, 25, 0, 0)
}

// TestEstLimits: P14.2, products stay within the limits of an estimate.
func TestEstLimits(t *testing.T) {
	eq := of(api.OpEq, ref(0, 0), ref(1, 0))
	stats := []api.Stat{stat(math.MaxInt, unlike(math.MaxInt)), stat(math.MaxInt, unlike(-1)), stat(math.MinInt), stat(1, unlike(most))}
	checkAll(t, tables([]int{0, 1}, eq), stats, nil, 0, most, most, 1)
	checkAll(t, tables([]int{1, 1}, eq), stats, nil, 0, most, most, most)
	checkAll(t, tables([]int{0, 2}, eq), stats, nil, 0, most, 0, 0)
	checkAll(t, tables([]int{3, 3}, eq), stats, nil, 0, 1, 1, 0)
	checkAll(t, tables([]int{0, 0, 2, 0}), stats, nil, 0, most, most, most, 0, 0, 0, 0, most, most, most, most, 0, 0, 0, 0)
	// The product with a numerator stays at Most before it is divided: 10^7 * 10^7 / (2 * 10^7).
	h := api.Hist{Steps: []api.Step{{Upto: number(5).V, Many: 10000000}, {Upto: number(9).V, Many: 10000000}}}
	checkEst(t, tables([]int{0}, of(api.OpLe, ref(0, 0), number(5))), 1, []api.Stat{stat(10000000, h)}, nil, 50000)
}

// TestEstKnown: P14.2, what is known of a signature, by its last element, clipped, instead of what is computed.
func TestEstKnown(t *testing.T) {
	b, stats := tables([]int{0, 1}, of(api.OpEq, ref(1, 0), ref(0, 0)), of(api.OpGt, ref(1, 0), number(5))), []api.Stat{stat(100, unlike(50)), stat(100, unlike(20))}
	both := "S0 1 (11 I5 R1.0);(9 R0.0 R1.0);"
	for _, x := range []struct {
		known []api.Known
		want  int
	}{
		{nil, 200}, {[]api.Known{}, 200}, {[]api.Known{{Sign: both, Many: 3}}, 3}, {[]api.Known{{Sign: both, Many: 0}}, 0}, {[]api.Known{{Sign: both, Many: -1}}, 0}, {[]api.Known{{Sign: both, Many: math.MinInt}}, 0},
		{[]api.Known{{Sign: both, Many: most}}, most}, {[]api.Known{{Sign: both, Many: most + 1}}, most}, {[]api.Known{{Sign: both, Many: math.MaxInt}}, most},
		{[]api.Known{{Sign: both, Many: 3}, {Sign: both, Many: 4}}, 4}, {[]api.Known{{Sign: both, Many: 4}, {Sign: both, Many: 3}}, 3}, {[]api.Known{{Sign: both, Many: 4}, {Sign: both, Many: -3}}, 0}, {[]api.Known{{Sign: both, Many: 4}, {Sign: "S0 ", Many: 7}, {Sign: "", Many: 8}}, 4}, {[]api.Known{{Sign: "S0 ", Many: 7}, {Sign: both, Many: 5}}, 5},
		{[]api.Known{{Sign: "", Many: 1}, {Sign: "S", Many: 1}, {Sign: both + ";", Many: 1}, {Sign: both[:len(both)-1], Many: 1}, {Sign: " " + both, Many: 1}, {Sign: "s" + both[1:], Many: 1}, {Sign: "S0 1 ", Many: 1}, {Sign: "S0 ", Many: 1}, {Sign: "S1 0 (11 I5 R1.0);(9 R0.0 R1.0);", Many: 1}}, 200},
		{[]api.Known{{Sign: both, Many: 3}, {Sign: both, Many: 4}}[:1], 3},
	} {
		checkEst(t, b, 3, stats, x.known, x.want)
	}
}

// TestAllKnown: P14.2, what is known of a set says nothing of another one, but two sets may have one signature.
func TestAllKnown(t *testing.T) {
	lt, gt := of(api.OpLt, ref(0, 0), number(9)), of(api.OpGt, number(9), ref(1, 0))
	b, stats := tables([]int{5, 5, 2}, lt, gt), []api.Stat{2: stat(20), 5: stat(100, stepped())}
	checkAll(t, b, stats, nil, 0, 25, 25, 625, 20, 500, 500, 12500)
	checkAll(t, b, stats, []api.Known{{Sign: "S5 (11 R0.0 I9);", Many: 77}, {Sign: "S2 ", Many: -5}}, 0, 77, 77, 625, 0, 500, 500, 12500)
	checkAll(t, b, stats, []api.Known{{Sign: "S5 2 (11 R0.0 I9);", Many: 1}, {Sign: "S5 5 2 (11 R0.0 I9);(11 R1.0 I9);", Many: 2}, {Sign: "S5 5 ", Many: 3}}, 0, 25, 25, 625, 20, 1, 1, 2)
}

// TestAll: P14.2, 2^Core numbers, the first of which is 0.
func TestAll(t *testing.T) {
	stats := []api.Stat{stat(2), stat(3), stat(5), stat(7), stat(11)}
	l := []int{0, 1, 2, 3, 4}
	want := []int{0, 2, 3, 6, 5, 10, 15, 30, 7, 14, 21, 42, 35, 70, 105, 210}
	for core := 1; core <= 4; core++ {
		for more := core; more <= len(l); more++ {
			checkAll(t, api.Block{Tables: l[:more], Core: core}, stats, nil, want[:1<<core]...)
		}
	}
}

// TestWrongEst: P14.2 and P2, ErrArg where there is no signature, whatever is known.
func TestWrongEst(t *testing.T) {
	stats, known := []api.Stat{stat(100, stepped())}, []api.Known{{Sign: "", Many: 5}, {Sign: "S0 ", Many: 6}, {Sign: "S", Many: 7}, {Sign: "S0 1 ", Many: 8}}
	check := func(b api.Block, l ...int) {
		t.Helper()
		for _, set := range l {
			if n, err := card.Est(b, set, stats, known); n != 0 || err != api.ErrArg {
				t.Error(b, set, n, err)
			}
		}
	}
	none := func(b api.Block) {
		t.Helper()
		check(b, 0, 1, 2, 3, -1, math.MaxInt, math.MinInt)
		if l, err := card.All(b, stats, known); len(l) != 0 || err != api.ErrArg {
			t.Error(b, l, err)
		}
	}
	for core := 1; core <= 4; core++ {
		b := api.Block{Tables: []int{0, 1, 2, 3, 4}, Core: core}
		check(b, 0, -1, -2, 1<<core, 1<<core+1, 1<<core*2-1, 16, 32, 1<<32+1, math.MaxInt, math.MinInt, math.MinInt+1)
	}
	for _, core := range []int{0, -1, 5, 6, 62, 63, 64, 65, math.MaxInt, math.MinInt} {
		none(api.Block{Tables: make([]int, 70), Core: core})
	}
	none(api.Block{})
	for core := 1; core <= 4; core++ {
		none(api.Block{Tables: make([]int, core-1), Core: core})
		none(api.Block{Tables: make([]int, 8)[:core-1], Core: core})
	}
	for _, e := range wrong() {
		for _, l := range [][]api.Expr{{e}, {e, ref(0, 0)}, {ref(0, 0), e}, {ref(1, 0), e, ref(1, 0)}} {
			none(tables([]int{0, 1}, l...))
		}
	}
}

// TestSigned: P14.2, a number that is put under sign.Of is found.
func TestSigned(t *testing.T) {
	b := tables([]int{3, 1, 3, 2}, of(api.OpEq, ref(0, 0), ref(1, 0)), of(api.OpEq, ref(3, 0), ref(2, 1)), of(api.OpGe, ref(2, 0), word("x")), of(api.OpIs, ref(1, 3)))
	var known []api.Known
	want := []int{0}
	for set := 1; set < 16; set++ {
		s, err := sign.Of(b, set)
		if err != api.OK {
			t.Fatal(set, err)
		}
		known = append(known, api.Known{Sign: s, Many: 100 + set})
		want = append(want, 100+set)
	}
	checkAll(t, b, nil, known, want...)
}
