package sign_test

import (
	"math"
	"slices"
	"testing"

	"weathercock/api"
	"weathercock/sign"
)

// TestWithin: P12.2, the expressions that refer to tables of the set, and to no others.
func TestWithin(t *testing.T) {
	l := []api.Expr{
		ref(0, 0), number(1), of(api.OpEq, ref(0, 0), ref(1, 0)), param(1), of(api.OpIs, ref(2, 5)), of(api.OpAnd, of(api.OpLt, ref(2, 0), ref(0, 0)), of(api.OpIs, ref(1, 0))),
		ref(15, 0), of(api.OpAdd, ref(1, 0), ref(1, 1)), of(api.OpEq, null(), param(2)), {}, ref(16, 0), of(api.OpEq, ref(0, 0), ref(0, 6)), of(api.OpEq, ref(0, 0), of(api.OpName)), endless(), of(api.OpGt, ref(0, 1), number(1)),
	}
	for _, x := range []struct {
		set  int
		want []int
	}{
		{0, nil}, {1, []int{0, 14}}, {2, []int{7}}, {3, []int{0, 2, 7, 14}}, {4, []int{4}}, {5, []int{0, 4, 14}}, {6, []int{4, 7}}, {7, []int{0, 2, 4, 5, 7, 14}}, {8, nil}, {1<<15 - 1, []int{0, 2, 4, 5, 7, 14}},
		{1 << 15, []int{6}}, {1<<15 + 1, []int{0, 6, 14}}, {1<<16 - 1, []int{0, 2, 4, 5, 6, 7, 14}}, {1 << 16, nil}, {math.MaxInt, []int{0, 2, 4, 5, 6, 7, 14}}, {math.MaxInt - 1, []int{4, 6, 7}}, {1<<62 + 2, []int{7}},
		{-1, nil}, {-2, nil}, {math.MinInt, nil}, {math.MinInt + 1, nil}, {math.MinInt + 3, nil},
	} {
		if got := sign.Within(l, x.set); !slices.Equal(got, x.want) {
			t.Error(x.set, got, x.want)
		}
	}
	for _, set := range []int{0, 1, -1, math.MaxInt} {
		if got := sign.Within(nil, set); len(got) != 0 {
			t.Error(set, got)
		}
	}
	if got := sign.Within([]api.Expr{ref(0, 0), ref(0, 0), ref(0, 0)}, 1); !slices.Equal(got, []int{0, 1, 2}) {
		t.Error(got)
	}
}

// example has four core tables and one from outside; 4 is there twice.
func example() api.Block {
	return api.Block{
		Tables: []int{4, 12, 0, 4, 7}, Core: 4, Kinds: []int{api.Left}, On: []api.Expr{of(api.OpEq, ref(0, 0), ref(4, 0))},
		Conds: []api.Expr{
			of(api.OpEq, ref(3, 0), ref(1, 1)), of(api.OpGt, ref(1, 0), number(5)), of(api.OpIs, ref(3, 2)), of(api.OpLt, number(5), ref(1, 0)), of(api.OpEq, ref(0, 0), ref(1, 0)),
			of(api.OpNe, param(1), null()), of(api.OpEq, ref(0, 0), ref(4, 0)), of(api.OpOr, of(api.OpEq, ref(2, 0), ref(0, 0)), of(api.OpEq, ref(3, 0), ref(2, 0))),
		},
		After: []api.Expr{of(api.OpIs, ref(0, 3))}, Unsafe: []api.Expr{of(api.OpEq, of(api.OpDiv, number(1), ref(0, 4)), ref(0, 0))},
		Keys: []api.Expr{ref(0, 5)}, Items: []api.Item{{E: ref(0, 5)}}, Distinct: true, Grouped: true,
	}
}

// TestOf: P12.2, signatures, written by hand.
func TestOf(t *testing.T) {
	b := example()
	for set, want := range []string{
		"", "S4 ", "S12 (11 I5 R0.0);", "S4 12 (11 I5 R1.0);(9 R0.0 R1.0);",
		"S0 ", "S4 0 ", "S12 0 (11 I5 R0.0);", "S4 12 0 (11 I5 R1.0);(9 R0.0 R1.0);",
		"S4 (18 R0.2);", "S4 4 (18 R1.2);", "S12 4 (11 I5 R0.0);(18 R1.2);(9 R0.1 R1.0);", "S4 12 4 (11 I5 R1.0);(18 R2.2);(9 R0.0 R1.0);(9 R1.1 R2.0);",
		"S0 4 (18 R1.2);", "S4 0 4 (16 (9 R0.0 R1.0) (9 R1.0 R2.0));(18 R2.2);", "S12 0 4 (11 I5 R0.0);(18 R2.2);(9 R0.1 R2.0);",
		"S4 12 0 4 (11 I5 R1.0);(16 (9 R0.0 R2.0) (9 R2.0 R3.0));(18 R3.2);(9 R0.0 R1.0);(9 R1.1 R3.0);",
	} {
		if set == 0 {
			continue
		}
		if s, err := sign.Of(b, set); s != want || err != api.OK {
			t.Error(set, s, err, want)
		}
	}
}

// TestTablesOf: P12.2, the numbers of the tables are told as they are, whatever they are; those behind the core are not looked at.
func TestTablesOf(t *testing.T) {
	for _, x := range []struct {
		b    api.Block
		set  int
		want string
	}{
		{api.Block{Tables: []int{3}, Core: 1}, 1, "S3 "}, {api.Block{Tables: []int{3, 8, 9}, Core: 1}, 1, "S3 "}, {api.Block{Tables: []int{-3, math.MaxInt, math.MinInt, 0}, Core: 4}, 15, "S-3 9223372036854775807 -9223372036854775808 0 "},
		{api.Block{Tables: []int{3, 2, 1}, Core: 3}, 7, "S3 2 1 "}, {api.Block{Tables: []int{12, 1, 2}, Core: 3}, 5, "S12 2 "}, {api.Block{Tables: []int{1, 1}, Core: 2}, 2, "S1 "},
		{api.Block{Tables: []int{1, 2}, Core: 2, Conds: []api.Expr{ref(2, 0), ref(15, 0), number(3)}}, 3, "S1 2 "},
		{api.Block{Tables: []int{1, 2}, Core: 1, Conds: []api.Expr{ref(1, 0), ref(0, 0)}}, 1, "S1 R0.0;"},
		{api.Block{Tables: []int{1}, Core: 1, Conds: []api.Expr{of(api.OpEq, ref(0, 0), word("a;b c"))}}, 1, "S1 (9 R0.0 T5:a;b c);"},
		{api.Block{Tables: []int{1}, Core: 1, Conds: []api.Expr{ref(0, 5), ref(0, 5), ref(0, 0)}, On: wrong(), After: wrong(), Unsafe: wrong(), Keys: wrong(), Kinds: []int{9, -9}}, 1, "S1 R0.0;R0.5;"},
	} {
		if s, err := sign.Of(x.b, x.set); s != x.want || err != api.OK {
			t.Error(x.b, x.set, s, err)
		}
	}
}

// TestOrderOf: P12.2, the order of Conds is that of the expressions whose tables are numbered anew.
func TestOrderOf(t *testing.T) {
	b := api.Block{Tables: []int{1, 2, 3}, Core: 3, Conds: []api.Expr{of(api.OpEq, ref(2, 0), ref(1, 1)), of(api.OpEq, ref(1, 0), ref(2, 1)), of(api.OpIs, ref(2, 0)), of(api.OpIs, ref(1, 1))}}
	if s, err := sign.Of(b, 6); s != "S2 3 (18 R0.1);(18 R1.0);(9 R0.0 R1.1);(9 R0.1 R1.0);" || err != api.OK {
		t.Error(s, err)
	}
	// Two expressions of unlike tables may be the same where only their own table is asked for, and are told apart where both are.
	b = api.Block{Tables: []int{5, 5}, Core: 2, Conds: []api.Expr{of(api.OpGe, ref(0, 0), number(1)), of(api.OpLe, number(1), ref(1, 0))}}
	for set, want := range map[int]string{1: "S5 (12 I1 R0.0);", 2: "S5 (12 I1 R0.0);", 3: "S5 5 (12 I1 R0.0);(12 I1 R1.0);"} {
		if s, err := sign.Of(b, set); s != want || err != api.OK {
			t.Error(set, s, err)
		}
	}
}

// TestWrongOf: P12.2, what is no set of core tables, and blocks that have none.
func TestWrongOf(t *testing.T) {
	check := func(b api.Block, set int) {
		t.Helper()
		if s, err := sign.Of(b, set); s != "" || err != api.ErrArg {
			t.Error(b, set, s, err)
		}
	}
	b := example()
	for _, set := range []int{0, 16, 17, 31, 32, -1, -15, math.MaxInt, math.MinInt, math.MinInt + 1, 1<<32 + 1} {
		check(b, set)
	}
	for core := 1; core < 4; core++ {
		b.Core = core
		b.Conds = nil
		check(b, 1<<core)
		check(b, 1<<core+1)
		if _, err := sign.Of(b, 1<<core-1); err != api.OK {
			t.Error(core, err)
		}
	}
	for _, core := range []int{0, -1, 5, 6, 62, 63, 64, 65, math.MaxInt, math.MinInt} {
		check(api.Block{Tables: make([]int, 70), Core: core}, 1)
		check(api.Block{Core: core}, 0)
		check(api.Block{Tables: []int{1}, Core: core}, 1)
	}
	check(api.Block{}, 0)
	check(api.Block{}, 1)
	for core := 1; core <= 4; core++ {
		check(api.Block{Tables: make([]int, core-1), Core: core}, 1)
		check(api.Block{Tables: make([]int, 3, 8)[:core-1], Core: core}, 1)
	}
	for _, e := range wrong() {
		for _, l := range [][]api.Expr{{e}, {e, ref(0, 0)}, {ref(0, 0), e}, {ref(1, 0), e, ref(1, 0)}} {
			check(api.Block{Tables: []int{1, 2}, Core: 2, Conds: l}, 1)
			check(api.Block{Tables: []int{1, 2}, Core: 2, Conds: l}, 3)
		}
	}
	check(api.Block{Tables: []int{1, 2}, Core: 2, Conds: []api.Expr{of(api.OpEq, ref(1, 0), ref(1, 6))}}, 1) // not valid, though of another table
}
