package picks_test

import (
	"math"
	"math/big"
	"math/rand"
	"slices"
	"testing"

	"weathercock/picks"
)

// most is how many numbers a queue, and an order, has at most.
const most = 1000

// model is a queue as the chapter tells it: a plain list.
type model struct{ l []int }

func newModel(l []int) *model { return &model{slices.Clone(l[:min(len(l), most)])} }

// next is what Next answers, with numbers of any size as the measure.
func (m *model) next(n int) int {
	if n < 1 || len(m.l) == 0 {
		return 0
	}
	c := big.NewInt(int64(m.l[0]))
	m.l = m.l[1:]
	if c.Sign() < 0 {
		c.Add(c, big.NewInt(1)).Neg(c)
	}
	return int(c.Mod(c, big.NewInt(int64(n))).Int64())
}

// shuffle is what Shuffle answers: each number is looked for among all, past those that are used.
func (m *model) shuffle(n int) []int {
	n = max(0, min(n, most))
	used := make([]bool, n)
	var out []int
	for left := n; left > 0; left-- {
		skip := m.next(left)
		for i := range n {
			if used[i] {
				continue
			}
			if skip == 0 {
				used[i] = true
				out = append(out, i)
				break
			}
			skip--
		}
	}
	return out
}

// edges are numbers at which something changes.
func edges() []int {
	return []int{
		0, 1, 2, 3, 4, 5, 7, 8, 9, 10, 999, 1000, 1001, math.MaxInt32, math.MaxInt32 + 1, math.MaxUint32, 1 << 62, math.MaxInt - 1, math.MaxInt,
		-1, -2, -3, -4, -5, -7, -8, -9, -10, -1000, -1001, math.MinInt32, math.MinInt32 - 1, -1 << 62, math.MinInt + 2, math.MinInt + 1, math.MinInt,
	}
}

// count are the numbers from a on, n of them.
func count(a, n int) []int {
	var l []int
	for i := range n {
		l = append(l, a+i)
	}
	return l
}

// left checks how many numbers are in the queue.
func left(t *testing.T, what any, p *picks.Picks, want int) {
	t.Helper()
	for range 2 {
		if got := p.Left(); got != want {
			t.Errorf("%v: Left %d, want %d", what, got, want)
		}
	}
}

// TestExample: P4.1, the chapter's example.
func TestExample(t *testing.T) {
	p := picks.New([]int{5, -1, 7})
	for i, c := range []struct{ n, want, left int }{{3, 2, 2}, {3, 0, 1}, {0, 0, 1}, {4, 3, 0}, {9, 0, 0}} {
		if got := p.Next(c.n); got != c.want {
			t.Error(i, c, got)
		}
		left(t, i, p, c.left)
	}
}

// TestNextByHand: P4.1, answers written down by hand, each of a queue with one number.
func TestNextByHand(t *testing.T) {
	for _, x := range []struct{ c, n, want int }{
		{0, 1, 0}, {0, 5, 0}, {1, 1, 0}, {4, 5, 4}, {5, 5, 0}, {6, 5, 1}, {14, 5, 4}, {1, 2, 1}, {2, 2, 0},
		{-1, 5, 0}, {-2, 5, 1}, {-5, 5, 4}, {-6, 5, 0}, {-7, 5, 1}, {-1, 1, 0}, {-9, 1, 0}, {-3, 2, 0}, {-4, 2, 1},
		{math.MaxInt, 10, 7}, {math.MaxInt, 2, 1}, {math.MaxInt, math.MaxInt, 0}, {math.MaxInt - 1, math.MaxInt, math.MaxInt - 1},
		{math.MinInt, 10, 7}, {math.MinInt, 2, 1}, {math.MinInt, math.MaxInt, 0}, {math.MinInt + 1, math.MaxInt, math.MaxInt - 1},
		{math.MinInt, 1, 0}, {math.MinInt + 1, 10, 6}, {7, math.MaxInt, 7}, {-8, math.MaxInt, 7},
	} {
		p := picks.New([]int{x.c})
		if got := p.Next(x.n); got != x.want {
			t.Error(x, got)
		}
		left(t, x, p, 0)
	}
}

// TestNextEdges: P4.1, all pairs of edges: the answer is in its range, and one number is removed, or none.
func TestNextEdges(t *testing.T) {
	for _, c := range edges() {
		for _, n := range edges() {
			p, m := picks.New([]int{c, 3}), newModel([]int{c, 3})
			got, want := p.Next(n), m.next(n)
			if got != want || got < 0 || got > 0 && got >= n {
				t.Errorf("%d, Next(%d): %d, want %d", c, n, got, want)
			}
			left(t, []int{c, n}, p, len(m.l))
			if got, want := p.Next(math.MaxInt), m.next(math.MaxInt); got != want {
				t.Errorf("%d, Next(%d), and once more: %d, want %d", c, n, got, want)
			}
		}
	}
}

// TestNone: P4.1, where there is nothing to choose from, nothing is removed.
func TestNone(t *testing.T) {
	p := picks.New([]int{4, 5})
	for _, n := range []int{0, -1, -2, -1000, math.MinInt + 1, math.MinInt} {
		if got := p.Next(n); got != 0 {
			t.Error(n, got)
		}
		left(t, n, p, 2)
	}
	if a, b := p.Next(10), p.Next(10); a != 4 || b != 5 {
		t.Error(a, b)
	}
}

// TestOne: P4.1, one thing to choose from removes a number like any other.
func TestOne(t *testing.T) {
	p := picks.New([]int{4, -5, 6})
	for i := range 2 {
		if got := p.Next(1); got != 0 {
			t.Error(got)
		}
		left(t, i, p, 2-i)
	}
	if got := p.Next(10); got != 6 {
		t.Error(got)
	}
}

// TestEmpty: P4.1, an empty queue chooses 0, for ever.
func TestEmpty(t *testing.T) {
	for _, l := range [][]int{nil, {}, {8}} {
		p := picks.New(l)
		if len(l) > 0 {
			p.Next(3)
		}
		for range 3 {
			for _, n := range edges() {
				if got := p.Next(n); got != 0 {
					t.Error(l, n, got)
				}
				left(t, l, p, 0)
			}
		}
	}
}

// TestMost: P4.1, a queue has the first 1000 numbers, in their order, and no others.
func TestMost(t *testing.T) {
	for _, size := range []int{1, 2, 10, most - 1, most, most + 1, most + 500, 100 * most} {
		l := count(1, size)
		p := picks.New(l)
		for i, want := range l[:min(size, most)] {
			if p.Left() != min(size, most)-i {
				t.Fatal(size, i, p.Left())
			}
			if got := p.Next(math.MaxInt); got != want {
				t.Fatal(size, i, got, want)
			}
		}
		left(t, size, p, 0)
		if got := p.Next(math.MaxInt); got != 0 {
			t.Error(size, got)
		}
	}
}

// TestSteps: P4.1 and P4.2, many steps on one queue, with a plain list as the measure.
func TestSteps(t *testing.T) {
	for seed := range int64(200) {
		r := rand.New(rand.NewSource(seed))
		l := make([]int, r.Intn(60))
		for i := range l {
			l[i] = r.Intn(41) - 20
			if r.Intn(5) == 0 {
				l[i] = edges()[r.Intn(len(edges()))]
			}
		}
		p, m := picks.New(l), newModel(l)
		for range 60 {
			n := r.Intn(14) - 2
			switch r.Intn(6) {
			case 0:
				if got, want := p.Shuffle(n), m.shuffle(n); !slices.Equal(got, want) {
					t.Fatalf("seed %d: Shuffle(%d): %v, want %v", seed, n, got, want)
				}
			default:
				if got, want := p.Next(n), m.next(n); got != want {
					t.Fatalf("seed %d: Next(%d): %d, want %d", seed, n, got, want)
				}
			}
			left(t, seed, p, len(m.l))
		}
	}
}

// TestShuffleByHand: P4.2, answers written down by hand, and what the queue has behind them.
func TestShuffleByHand(t *testing.T) {
	for _, x := range []struct {
		l    []int
		n    int
		want []int
		left int
	}{
		{[]int{2, 0}, 4, []int{2, 0, 1, 3}, 0},
		{nil, 4, []int{0, 1, 2, 3}, 0},
		{[]int{0, 0, 0, 0}, 4, []int{0, 1, 2, 3}, 0},
		{[]int{3, 2, 1, 0}, 4, []int{3, 2, 1, 0}, 0},
		{[]int{3, 3, 3, 3}, 4, []int{3, 0, 2, 1}, 0},
		{[]int{-4, -3, -2, -1}, 4, []int{3, 2, 1, 0}, 0},
		{[]int{1, 1, 1}, 4, []int{1, 2, 3, 0}, 0},
		{[]int{1, 1, 1, 9, 5}, 4, []int{1, 2, 3, 0}, 1},
		{[]int{7, 8}, 1, []int{0}, 1},
		{[]int{7, 8}, 2, []int{1, 0}, 0},
		{[]int{8, 7, 6}, 2, []int{0, 1}, 1},
		{[]int{math.MaxInt, math.MinInt, -1}, 3, []int{1, 2, 0}, 0},
		{[]int{7, 8}, 0, nil, 2},
		{[]int{7, 8}, -1, nil, 2},
		{[]int{7, 8}, math.MinInt, nil, 2},
	} {
		p := picks.New(x.l)
		if got := p.Shuffle(x.n); !slices.Equal(got, x.want) {
			t.Error(x, got)
		}
		left(t, x, p, x.left)
	}
}

// TestShuffleAll: P4.2, every order of a few numbers is chosen by one list of choices.
func TestShuffleAll(t *testing.T) {
	const n = 5
	seen := map[[n]int]int{}
	for code := range 5 * 4 * 3 * 2 {
		l := []int{code % 5, code / 5 % 4, code / 20 % 3, code / 60, 0}
		p, m := picks.New(l), newModel(l)
		got := p.Shuffle(n)
		if !slices.Equal(got, m.shuffle(n)) {
			t.Error(l, got)
		}
		left(t, l, p, 0)
		seen[[n]int(got)]++
	}
	if len(seen) != 120 {
		t.Error(len(seen))
	}
}

// TestShuffleMost: P4.2, from 1000 numbers on, an order has 1000, of which each takes a choice, also the last one.
func TestShuffleMost(t *testing.T) {
	r := rand.New(rand.NewSource(4))
	l := make([]int, most)
	for i := range l {
		l[i] = r.Int() - r.Int()
	}
	for _, n := range []int{1, 2, 100, most - 1, most, most + 1, 2 * most, math.MaxInt32, math.MaxInt - 1, math.MaxInt} {
		p := picks.New(l)
		got := p.Shuffle(n)
		if !slices.Equal(got, newModel(l).shuffle(n)) {
			t.Error(n)
		}
		left(t, n, p, most-min(n, most))
		slices.Sort(got)
		if !slices.Equal(got, count(0, min(n, most))) {
			t.Error(n, "not the numbers from 0 on")
		}
		if got := picks.New(nil).Shuffle(n); !slices.Equal(got, count(0, min(n, most))) {
			t.Error(n, "of an empty queue")
		}
	}
}

// TestShuffleShort: P4.2, a queue that ends within an order chooses the smallest number from there on.
func TestShuffleShort(t *testing.T) {
	for size := range 8 {
		l := []int{6, 5, 4, 3, 2, 1, 0}[:size]
		p := picks.New(l)
		want := append(slices.Clone(l), count(0, 7-size)...)
		if got := p.Shuffle(7); !slices.Equal(got, want) {
			t.Error(size, got, want)
		}
		left(t, size, p, 0)
	}
}

// TestTwoQueues: P4, a queue hangs on its own calls only, and the same calls answer the same.
func TestTwoQueues(t *testing.T) {
	l := []int{3, -8, 12, 5, -1, 4}
	a, b := picks.New(l), picks.New(l)
	first := []int{a.Next(7), a.Next(4), a.Next(100)}
	order := a.Shuffle(2)
	left(t, "the first one", a, 1)
	left(t, "the other one", b, 6)
	if again := []int{b.Next(7), b.Next(4), b.Next(100)}; !slices.Equal(first, again) || !slices.Equal(first, []int{3, 3, 12}) {
		t.Error(first, again)
	}
	if again := b.Shuffle(2); !slices.Equal(order, again) || !slices.Equal(order, []int{1, 0}) {
		t.Error(order, again)
	}
}

// TestMemory: P3, the list of New stays as it is and is not kept, and Shuffle returns memory of its own.
func TestMemory(t *testing.T) {
	whole := []int{2, 1, 0, 77, 78}
	p := picks.New(whole[:3])
	left(t, "behind the length", p, 3)
	if !slices.Equal(whole, []int{2, 1, 0, 77, 78}) {
		t.Error("the list was changed", whole)
	}
	for i := range whole {
		whole[i] = 5
	}
	first := p.Shuffle(3)
	if !slices.Equal(first, []int{2, 1, 0}) || !slices.Equal(whole, []int{5, 5, 5, 5, 5}) {
		t.Error("the list was kept", first, whole)
	}
	second := p.Shuffle(3)
	for i := range first[:cap(first)] {
		first[:cap(first)][i] = -99
	}
	if third := p.Shuffle(3); !slices.Equal(second, []int{0, 1, 2}) || !slices.Equal(third, []int{0, 1, 2}) {
		t.Error("answers share memory", second, third)
	}
}
