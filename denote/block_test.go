package denote_test

import (
	"math"
	"math/big"
	"slices"
	"strconv"
	"testing"

	"weathercock/api"
	"weathercock/denote"
)

const (
	great  = "9223372036854775807"
	little = "(-9223372036854775807 - 1)"
)

// TestUsed: P11.2, step 1, the combinations of Outer(Core) for which all of After are true, in their order.
func TestUsed(t *testing.T) {
	blocks(t, tables(),
		asked{"SELECT a, b FROM t", "(1 'x')(2 'y')(- 'x')(2 -)", false},
		asked{"SELECT a FROM e", "", false},
		asked{"SELECT t.a, u.a FROM t, u WHERE t.a = u.a", "(1 1)(2 2)(2 2)(2 2)(2 2)", false},
		asked{"SELECT t.a, c FROM t LEFT JOIN u ON t.a = u.a", "(1 false)(2 true)(2 -)(- -)(2 true)(2 -)", false},
		asked{"SELECT t.a, c FROM t LEFT JOIN u ON t.a = u.a WHERE c IS NULL", "(2 -)(- -)(2 -)", false},
		asked{"SELECT t.a, c FROM t LEFT JOIN u ON t.a = u.a WHERE c", "(2 true)(2 true)", false},
		asked{"SELECT t.a, c FROM t LEFT JOIN u ON t.a = u.a WHERE NOT c", "(1 false)", false},
		asked{"SELECT t.a, c FROM t LEFT JOIN u ON t.a = u.a WHERE c IS NULL AND u.a IS NULL", "(- -)", false},
		asked{"SELECT t.a, c FROM t LEFT JOIN u ON t.a = u.a WHERE b = 'x' AND u.a = 1", "(1 false)", false},
		asked{"SELECT a, b FROM t SEMI JOIN u ON t.a = u.a", "(1 'x')(2 'y')(2 -)", false},
		asked{"SELECT a FROM t WHERE TRUE", "(1)(2)(-)(2)", false},
		asked{"SELECT a FROM t WHERE FALSE", "", false},
		asked{"SELECT a FROM t WHERE NULL", "", false},
		asked{"SELECT a FROM t WHERE TRUE AND FALSE AND TRUE", "", false},
		asked{"SELECT a FROM t WHERE TRUE AND a = 2", "(2)(2)", false},

		// What After removes does not fail.
		asked{"SELECT 1 / 0 FROM t WHERE FALSE", "", false},
		asked{"SELECT a FROM t WHERE 1 / 0 = 1 AND NULL", "", false},
		asked{"SELECT 6 / u.a FROM t LEFT JOIN u ON t.a = u.a WHERE u.a IS NULL", "(-)", false},
		asked{"SELECT 1 / (t.a - 1) FROM t LEFT JOIN u ON t.a = u.a WHERE u.a = 2", "(1)(1)(1)(1)", false},
		asked{"SELECT 1 / (t.a - 1) FROM t LEFT JOIN u ON t.a = u.a WHERE t.a = 2", "(1)(1)(1)(1)", false},
	)
}

// TestUnsafe: P11.2, step 2, the conditions in Unsafe are evaluated one after the other.
func TestUnsafe(t *testing.T) {
	blocks(t, tables(),
		asked{"SELECT a, b FROM t WHERE a + 0 = 2", "(2 'y')(2 -)", false},
		asked{"SELECT a, b FROM t WHERE NOT a + 0 = 2", "(1 'x')", false},
		asked{"SELECT a, b FROM t WHERE (a + 0 = 2) IS NULL", "(- 'x')", false},
		asked{"SELECT a, b FROM t WHERE a + 0 = 2 AND -a < 0 AND b IS NULL", "(2 -)", false},
		asked{"SELECT a, b FROM t WHERE 1 - 1 = 0", "(1 'x')(2 'y')(- 'x')(2 -)", false},
		asked{"SELECT a, b FROM t WHERE 1 - 1 = 1", "", false},
		asked{"SELECT a, b FROM t WHERE 1 - NULL = 1", "", false},

		// An error fails the combination, and no other.
		asked{"SELECT a, b FROM t WHERE 2 / (a - 1) = 2", "(2 'y')(2 -)", true},
		asked{"SELECT a FROM t WHERE 1 / 0 = 1", "", true},
		asked{"SELECT a FROM t WHERE 1 / 0 IS NULL", "", true},
		asked{"SELECT a FROM t WHERE TRUE OR 1 / 0 = 1", "", true},
		asked{"SELECT a FROM e WHERE 1 / 0 = 1", "", false},
		asked{"SELECT a FROM w WHERE a + 1 < 0", "(-9223372036854775808)", true},
		asked{"SELECT a FROM w WHERE -a <= 0", "(0)(9223372036854775807)(1)", true},
		asked{"SELECT a FROM t WHERE a = 2 AND 1 / (a - 1) = 1", "(2)(2)", false},
		asked{"SELECT a FROM t WHERE 1 / (a - 1) = 1 AND a = 2", "(2)(2)", false},
		asked{"SELECT t.a, u.a FROM t LEFT JOIN u ON t.a = u.a WHERE 1 / (u.a - 1) = 1", "(2 2)(2 2)(2 2)(2 2)", true},

		// No further condition is evaluated behind one that is false, or NULL.
		asked{"SELECT a FROM t WHERE a - 1 <> 0 AND 1 / (a - 1) = 1", "(2)(2)", false},
		asked{"SELECT a FROM t WHERE 1 / (a - 1) = 1 AND a - 1 <> 0", "(2)(2)", true},
		asked{"SELECT a FROM t WHERE a + 1 = NULL AND 1 / 0 = 1", "", false},
		asked{"SELECT a FROM t WHERE 1 / 0 = 1 AND a + 1 = NULL", "", true},
		asked{"SELECT a FROM t WHERE a + 1 = 3 AND 1 / (a - 1) = 1 AND 1 / (a - 1) = 2 AND 1 / 0 = 1", "", false},
		asked{"SELECT a FROM t WHERE a + 1 = 3 AND 1 / (a - 1) = 1 AND 1 / (a - 2) = 2 AND FALSE OR 1 + 1 = 3", "", true},

		// Nor are the items of what is removed.
		asked{"SELECT 1 / (a - 1) FROM t WHERE a + 0 = 2", "(1)(1)", false},
		asked{"SELECT 1 / 0 FROM t WHERE a + 0 = 3", "", false},
	)
}

// TestItems: P11.2, step 3, a row with the values of the Items for each combination.
func TestItems(t *testing.T) {
	blocks(t, tables(),
		asked{"SELECT b, a, b, NULL, TRUE, a * 10, a = 2, 'it''s' FROM t", "('x' 1 'x' - true 10 false 'it's')('y' 2 'y' - true 20 true 'it's')('x' - 'x' - true - - 'it's')(- 2 - - true 20 true 'it's')", false},
		asked{"SELECT 1 FROM t", "(1)(1)(1)(1)", false},
		asked{"SELECT a, 1 / (a - 1) FROM t", "(2 1)(- -)(2 1)", true},
		asked{"SELECT 1 / (a - 1), a FROM t", "(1 2)(- -)(1 2)", true},
		asked{"SELECT 1, 1 / 0, 1 FROM t", "", true},
		asked{"SELECT a + 1 FROM w", "(1)(-9223372036854775807)(2)(0)(-)", true},
		asked{"SELECT -a FROM w", "(0)(-9223372036854775807)(-1)(1)(-)", true},
		asked{"SELECT a * 2 FROM w", "(0)(2)(-2)(-)", true},
		asked{"SELECT a / -1 FROM w", "(0)(-9223372036854775807)(-1)(1)(-)", true},
		asked{"SELECT 1 / a FROM w", "(0)(0)(1)(-1)(-)", true},
		asked{"SELECT TRUE OR 1 / a = 1 FROM w", "(true)(true)(true)(true)(true)", true},
		asked{"SELECT 1 / 0 FROM e", "", false},
	)
	l := tables()
	params := []api.Value{of(7), {}, of(true), of("z")}
	rows, failed := denote.Block(l, params, bound(t, l, params, "SELECT $1 - a, $4, $2, $3 AND a = 2 FROM t").Blocks[0])
	if shown(rows) != "(6 'z' - false)(5 'z' - true)(- 'z' - -)(5 'z' - true)" || failed {
		t.Error(shown(rows), failed)
	}
}

// TestGroups: P11.2, step 4, groups by the values of Keys, in ascending order.
func TestGroups(t *testing.T) {
	l := append(tables(), table("g", "a:i b:t c:b",
		line(2, "b", true), line(-1, "", nil), line(nil, "ab", false), line(2, "a", true), line(2, "b", false), line(math.MinInt, nil, true), line(nil, "ab", true), line(-1, "", nil), line(math.MaxInt, "aa", false)))
	blocks(t, l,
		asked{"SELECT a FROM g GROUP BY a", "(-)(-9223372036854775808)(-1)(2)(9223372036854775807)", false},
		asked{"SELECT b FROM g GROUP BY b", "(-)('')('a')('aa')('ab')('b')", false},
		asked{"SELECT c FROM g GROUP BY c", "(-)(false)(true)", false},
		asked{"SELECT c, COUNT(*) FROM g GROUP BY c", "(- 2)(false 3)(true 4)", false},
		asked{"SELECT a, b, COUNT(*) FROM g GROUP BY a, b", "(- 'ab' 2)(-9223372036854775808 - 1)(-1 '' 2)(2 'a' 1)(2 'b' 2)(9223372036854775807 'aa' 1)", false},
		asked{"SELECT a, b, COUNT(*) FROM g GROUP BY b, a", "(-9223372036854775808 - 1)(-1 '' 2)(2 'a' 1)(9223372036854775807 'aa' 1)(- 'ab' 2)(2 'b' 2)", false},
		asked{"SELECT COUNT(*) FROM g GROUP BY c, a", "(2)(1)(1)(1)(1)(1)(2)", false},
		asked{"SELECT a = 2, COUNT(*), a = 2 FROM g GROUP BY a = 2", "(- 2 -)(false 4 false)(true 3 true)", false},
		asked{"SELECT COUNT(*) FROM g GROUP BY a = 2", "(2)(4)(3)", false},
		asked{"SELECT 1, COUNT(*) FROM g GROUP BY 1", "(1 9)", false},
		asked{"SELECT NULL, COUNT(*) FROM g GROUP BY NULL", "(- 9)", false},
		asked{"SELECT a, a FROM g WHERE a = 2 GROUP BY a, a", "(2 2)", false},
		asked{"SELECT t.a, u.c, COUNT(*) FROM t LEFT JOIN u ON t.a = u.a GROUP BY t.a, u.c", "(- - 1)(1 false 1)(2 - 2)(2 true 2)", false},

		// Without Keys all combinations are one group, which may be empty; with Keys there is no empty group.
		asked{"SELECT COUNT(*) FROM g", "(9)", false},
		asked{"SELECT COUNT(*), COUNT(*) FROM g WHERE a = 2", "(3 3)", false},
		asked{"SELECT COUNT(*), COUNT(a), SUM(a), MIN(a), MAX(b), COUNT(*) FROM e", "(0 0 - - - 0)", false},
		asked{"SELECT COUNT(*), COUNT(1), SUM(1), MIN(1), MAX('x') FROM g WHERE FALSE", "(0 0 - - -)", false},
		asked{"SELECT COUNT(*) FROM t, e", "(0)", false},
		asked{"SELECT COUNT(*), a FROM e GROUP BY a", "", false},
		asked{"SELECT COUNT(*) FROM g WHERE FALSE GROUP BY 1", "", false},

		// What fails is in no group.
		asked{"SELECT COUNT(*) FROM t WHERE 1 / (a - 1) = 1", "(2)", true},
		asked{"SELECT COUNT(*), SUM(1 / (a - 1)) FROM t", "(3 2)", true},
		asked{"SELECT COUNT(*), COUNT(1 / (a - 1)) FROM t", "(3 2)", true},
		asked{"SELECT COUNT(*), MIN(1 / (a - 1)) FROM t", "(3 1)", true},
		asked{"SELECT MAX(1 / (a - 1)), COUNT(*) FROM t", "(1 3)", true},
		asked{"SELECT COUNT(*), SUM(a), MAX(b), COUNT(1 / 0) FROM t", "(0 - - 0)", true},
		asked{"SELECT a, COUNT(*), COUNT(1 / (a - 1)) FROM t GROUP BY a", "(- 1 0)(2 2 2)", true},
		asked{"SELECT a, COUNT(1 / 0) FROM t GROUP BY a", "", true},
		asked{"SELECT COUNT(1 / 0) FROM e", "(0)", false},
		asked{"SELECT COUNT(1 / 0) FROM t WHERE a + 1 = 7", "(0)", false},
	)
}

// TestAggregates: P11.2, step 4, what a group yields for each Agg.
func TestAggregates(t *testing.T) {
	l := append(tables(), table("g", "a:i b:t c:b",
		line(5, "b", true), line(nil, "ab", nil), line(-3, "a", true), line(5, nil, false), line(nil, "", nil)))
	blocks(t, l,
		asked{"SELECT COUNT(*), COUNT(a), COUNT(b), COUNT(c), COUNT(NULL), COUNT(1), COUNT(a IS NULL), COUNT(a = NULL) FROM g", "(5 3 4 3 0 5 5 0)", false},
		asked{"SELECT SUM(a), SUM(a * 2), SUM(-a), SUM(1), SUM(0), SUM(NULL), SUM(a + NULL) FROM g", "(7 14 -7 5 0 - -)", false},
		asked{"SELECT MIN(a), MAX(a), MIN(b), MAX(b), MIN(c), MAX(c), MIN(NULL), MAX(NULL) FROM g", "(-3 5 '' 'b' false true - -)", false},
		asked{"SELECT MIN(1), MAX(1), MIN('x'), MAX('x'), MIN(-a), MAX(-a), MAX(a IS NULL), MIN(a = 5) FROM g", "(1 1 'x' 'x' -5 3 true false)", false},
		asked{"SELECT c, COUNT(*), COUNT(a), SUM(a), MIN(a), MAX(a), MIN(b), MAX(b) FROM g GROUP BY c", "(- 2 0 - - - '' 'ab')(false 1 1 5 5 5 - -)(true 2 2 2 -3 5 'a' 'b')", false},
		asked{"SELECT MAX(a), a, MIN(a) FROM g GROUP BY a", "(- - -)(-3 -3 -3)(5 5 5)", false},
		asked{"SELECT MIN(a), MAX(a), COUNT(a) FROM w", "(-9223372036854775808 9223372036854775807 5)", false},
		asked{"SELECT MAX(a), MIN(a) FROM w WHERE a < 0", "(-1 -9223372036854775808)", false},
		asked{"SELECT MAX(a), MIN(a) FROM w WHERE a > 0", "(9223372036854775807 1)", false},
		asked{"SELECT b, COUNT(*), c FROM g WHERE a = 5 GROUP BY c, b", "(- 1 false)('b' 1 true)", false},
		asked{"SELECT SUM(a) FROM w", "(-1)", false},
		asked{"SELECT COUNT(*), SUM(t.a), SUM(u.a) FROM t, u", "(12 15 20)", false},
	)
}

// TestSums: P11.2, step 4, a sum is exact, whatever it comes to on the way; a group whose sum does not fit fails.
func TestSums(t *testing.T) {
	edges := []int{0, 1, -1, 2, -2, 1 << 62, -1 << 62, math.MaxInt, math.MinInt, math.MaxInt - 1, math.MinInt + 1, 1 << 63 / 3}
	check := func(l ...int) {
		exact := new(big.Int)
		tab := numbers("t")
		for _, n := range l {
			exact.Add(exact, big.NewInt(int64(n)))
			tab.Rows = append(tab.Rows, line(n))
		}
		want, failed := "", true
		if exact.IsInt64() {
			want, failed = "("+strconv.Itoa(int(exact.Int64()))+")", false
		}
		blocks(t, []api.Table{tab}, asked{"SELECT SUM(a) FROM t", want, failed})
	}
	for _, a := range edges {
		check(a)
		for _, b := range edges {
			check(a, b)
			for _, c := range edges {
				check(a, b, c)
				check(a, a, b, a, c, b)
			}
		}
	}
	for _, n := range edges {
		check(slices.Repeat([]int{n}, 20)...)
		check(slices.Repeat([]int{n, -n}, 10)...)
		check(append(slices.Repeat([]int{math.MaxInt}, 10), slices.Repeat([]int{n}, 10)...)...)
		check(append(slices.Repeat([]int{math.MinInt}, 10), slices.Repeat([]int{n}, 10)...)...)
		check(append(slices.Repeat([]int{math.MinInt}, 7), slices.Concat([]int{n}, slices.Repeat([]int{math.MaxInt}, 7))...)...)
	}

	l := []api.Table{twenty(), numbers("w", math.MaxInt, math.MinInt, nil)}
	blocks(t, l,
		// 160000 times the greatest number, and so many times the least.
		asked{"SELECT SUM(" + great + ") FROM t a, t b, t c, t d", "", true},
		asked{"SELECT COUNT(*), SUM(" + little + ") FROM t a, t b, t c, t d", "", true},
		asked{"SELECT COUNT(*), SUM(w.a) FROM w, t b, t c, t d", "(24000 -8000)", false},
	)
	g := []api.Table{table("t", "a:i b:i", line(3, 1), line(2, math.MaxInt), line(1, math.MinInt), line(2, 1), line(3, math.MaxInt), line(3, -2), line(1, -1), line(4, nil))}
	blocks(t, g,
		asked{"SELECT a, SUM(b), COUNT(*) FROM t GROUP BY a", "(3 9223372036854775806 3)(4 - 1)", true},
		asked{"SELECT a, COUNT(*) FROM t GROUP BY a", "(1 2)(2 2)(3 3)(4 1)", false},
		asked{"SELECT a, MIN(b), MAX(b) FROM t GROUP BY a", "(1 -9223372036854775808 -1)(2 1 9223372036854775807)(3 -2 9223372036854775807)(4 - -)", false},
		asked{"SELECT SUM(b) FROM t WHERE a = 2 GROUP BY a", "", true},
		asked{"SELECT SUM(b) FROM t", "(9223372036854775805)", false},
		asked{"SELECT SUM(b), SUM(a) FROM t WHERE a < 2", "", true},
		asked{"SELECT SUM(a), SUM(b) FROM t WHERE a > 2", "(13 9223372036854775806)", false},
		asked{"SELECT a, SUM(b) FROM t WHERE a > 2 GROUP BY a", "(3 9223372036854775806)(4 -)", false},
		asked{"SELECT SUM(a), SUM(b - 1) FROM t WHERE a < 3", "(5 9223372036854775804)", true},
	)
}

// TestDistinct: P11.2, step 5, only the first one of equal rows is kept.
func TestDistinct(t *testing.T) {
	l := append(tables(), table("g", "a:i b:t c:b",
		line(2, "b", true), line(1, "", nil), line(2, "b", true), line(nil, "", false), line(1, nil, nil), line(nil, "", nil), line(2, "a", true), line(1, "", false)))
	blocks(t, l,
		asked{"SELECT DISTINCT a FROM t", "(1)(2)(-)", false},
		asked{"SELECT a FROM t", "(1)(2)(-)(2)", false},
		asked{"SELECT DISTINCT a FROM g", "(2)(1)(-)", false},
		asked{"SELECT DISTINCT b FROM g", "('b')('')(-)('a')", false},
		asked{"SELECT DISTINCT c FROM g", "(true)(-)(false)", false},
		asked{"SELECT DISTINCT a, b FROM g", "(2 'b')(1 '')(- '')(1 -)(2 'a')", false},
		asked{"SELECT DISTINCT b, c FROM g", "('b' true)('' -)('' false)(- -)('a' true)", false},
		asked{"SELECT DISTINCT a, b, c FROM g", "(2 'b' true)(1 '' -)(- '' false)(1 - -)(- '' -)(2 'a' true)(1 '' false)", false},
		asked{"SELECT DISTINCT 1 FROM g", "(1)", false},
		asked{"SELECT DISTINCT NULL, NULL FROM g", "(- -)", false},
		asked{"SELECT DISTINCT 1 FROM e", "", false},
		asked{"SELECT DISTINCT 1 FROM t a, t b, t c, e", "", false},
		asked{"SELECT DISTINCT 1 / (a - 1) FROM t", "(1)(-)", true},
		asked{"SELECT DISTINCT t.a, u.a FROM t LEFT JOIN u ON t.a = u.a", "(1 1)(2 2)(- -)", false},

		// Of groups, too.
		asked{"SELECT DISTINCT COUNT(*) FROM g GROUP BY a", "(2)(3)", false},
		asked{"SELECT COUNT(*) FROM g GROUP BY a", "(2)(3)(3)", false},
		asked{"SELECT DISTINCT COUNT(*), c FROM g GROUP BY a, c", "(1 -)(1 false)(2 -)(3 true)", false},
		asked{"SELECT DISTINCT COUNT(*) FROM g GROUP BY a, c", "(1)(2)(3)", false},
		asked{"SELECT DISTINCT COUNT(*) FROM e", "(0)", false},
		asked{"SELECT DISTINCT SUM(a * " + great + ") FROM g GROUP BY a", "(-)", true},
	)
	// Texts and numbers that look alike stay apart.
	queries(t, []api.Table{table("t", "a:t b:t", line("a", "b"), line("ab", ""), line("", "ab"), line("a", "b"), line("\x00", "\x03"), line("\x00\x03", ""))},
		asked{"SELECT DISTINCT a, b FROM t", "('' 'ab')('\x00' '\x03')('\x00\x03' '')('a' 'b')('ab' '')", false},
		asked{"SELECT a, b, COUNT(*) FROM t GROUP BY a, b", "('' 'ab' 1)('\x00' '\x03' 1)('\x00\x03' '' 1)('a' 'b' 2)('ab' '' 1)", false},
	)
	// The sign bits of two numbers cancel each other in row.Hash, but not here.
	w := []api.Table{table("t", "a:i b:i", line(1, 2), line(math.MinInt+1, math.MinInt+2), line(1, 2))}
	queries(t, w,
		asked{"SELECT DISTINCT a, b FROM t", "(-9223372036854775807 -9223372036854775806)(1 2)", false},
		asked{"SELECT a, b, COUNT(*) FROM t GROUP BY a, b", "(-9223372036854775807 -9223372036854775806 1)(1 2 2)", false},
	)
}

// TestMany: P11.2, a block whose combinations are far more than its rows.
func TestMany(t *testing.T) {
	blocks(t, []api.Table{twenty()},
		asked{"SELECT COUNT(*), SUM(e.a) FROM t a, t b, t c, t d LEFT JOIN t e ON e.a <= a.a", "(1680000 10640000)", false},
		asked{"SELECT DISTINCT a.a FROM t a, t b, t c, t d LEFT JOIN t e ON TRUE WHERE a.a < 2", "(0)(1)", false},
		asked{"SELECT a.a, COUNT(*) FROM t a, t b, t c LEFT JOIN t e ON TRUE LEFT JOIN t f ON f.a = 1 WHERE a.a < 2 GROUP BY a.a", "(0 8000)(1 8000)", false},
	)
}
