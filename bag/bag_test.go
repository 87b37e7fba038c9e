package bag_test

import (
	"fmt"
	"math/rand"
	"slices"
	"sort"
	"strings"
	"testing"

	"weathercock/bag"
)

// ascending are strings, each before the next one.
func ascending() []string {
	return []string{
		"", "\x00", "\x00\x00", "\x00a", " ", "10", "9", "A", "Z", "a", "a\x00", "aa", "ab", "b", "\x7f", "\x80", "é", "é1", "日", "\xff", "\xff\xff",
		"\xff\xff" + strings.Repeat("x", 500), "\xff\xff" + strings.Repeat("x", 501),
	}
}

// held is what the plain list l holds: how often s is in it.
func held(l []string, s string) int {
	n := 0
	for _, x := range l {
		if x == s {
			n++
		}
	}
	return n
}

// kinds are the strings of l, each once, in ascending order.
func kinds(l []string) []string {
	l = slices.Clone(l)
	sort.Strings(l)
	return slices.Compact(l)
}

// hold checks that b is the bag of the strings of l, by all that it can be asked; others are strings that may be in neither.
func hold(t *testing.T, what any, b *bag.Bag, l []string, others ...string) {
	t.Helper()
	if b.Len() != len(l) {
		t.Errorf("%v: Len %d, want %d", what, b.Len(), len(l))
	}
	if !slices.Equal(b.Kinds(), kinds(l)) {
		t.Errorf("%v: Kinds %q, want %q", what, b.Kinds(), kinds(l))
	}
	for _, s := range slices.Concat(others, kinds(l)) {
		if b.Count(s) != held(l, s) {
			t.Errorf("%v: Count of %q %d, want %d", what, s, b.Count(s), held(l, s))
		}
	}
}

// TestNew: P3.1, a new bag is empty, and no other call changes it.
func TestNew(t *testing.T) {
	b, other := bag.New(), bag.New()
	hold(t, "new", b, nil, ascending()...)
	other.Add("a")
	hold(t, "beside another one", b, nil, "a", "")
	if b.Take("a") || b.Take("") {
		t.Error("taken from an empty bag")
	}
	hold(t, "asked for what is not there", b, nil, "a", "")
	hold(t, "the other one", other, []string{"a"}, "")
}

// TestOf: P3.1, each string as often as the list has it, in whatever order.
func TestOf(t *testing.T) {
	for _, l := range [][]string{
		nil, {}, {""}, {"", ""}, {"a"}, {"a", "b", "a"}, {"b", "a", "a"}, {"a", "A", "", "aa", "a\x00", "", "a"},
		ascending(), slices.Concat(ascending(), ascending()), slices.Repeat([]string{"x", "y", "x"}, 1000),
	} {
		hold(t, "list", bag.Of(l), l, "", "a", "x", "none")
		back := slices.Clone(l)
		slices.Reverse(back)
		hold(t, "the other way round", bag.Of(back), l, "", "a", "x", "none")
	}
	b := bag.Of([]string{"a", "b", "a"})
	if b.Count("a") != 2 || b.Len() != 3 || !slices.Equal(b.Kinds(), []string{"a", "b"}) {
		t.Error("the chapter's example", b.Count("a"), b.Len(), b.Kinds())
	}
}

// TestKindsOrder: P3.1, Kinds tells in ascending order, byte by byte, a prefix first, whatever was added when.
func TestKindsOrder(t *testing.T) {
	want := ascending()
	r := rand.New(rand.NewSource(3))
	for range 50 {
		l := slices.Concat(want, want)
		r.Shuffle(len(l), func(i, k int) { l[i], l[k] = l[k], l[i] })
		b := bag.Of(l)
		for range 3 {
			if got := b.Kinds(); !slices.Equal(got, want) {
				t.Fatalf("%q", got)
			}
		}
	}
}

// TestAddTake: P3.1, an occurrence is added and taken; what was taken last is there no more, and may come again.
func TestAddTake(t *testing.T) {
	b := bag.New()
	b.Add("a")
	b.Add("a")
	b.Add("")
	hold(t, "added", b, []string{"a", "a", ""}, "b")
	if b.Take("b") || b.Take("aa") || b.Take("A") {
		t.Error("taken what is not there")
	}
	hold(t, "as it was", b, []string{"a", "a", ""}, "b", "aa", "A")
	if !b.Take("a") {
		t.Error("one of two")
	}
	hold(t, "one is left", b, []string{"a", ""}, "b")
	if !b.Take("a") || b.Take("a") || b.Take("a") {
		t.Error("the last one")
	}
	hold(t, "none is left", b, []string{""}, "a")
	if !b.Take("") || b.Take("") {
		t.Error("the empty string")
	}
	hold(t, "empty again", b, nil, "a", "")
	if !bag.Same(b, bag.New()) || !bag.Within(b, bag.New()) {
		t.Error("not the same as an empty one")
	}
	b.Add("a")
	hold(t, "once more", b, []string{"a"}, "")
}

// TestSteps: P3.1, many steps on one bag, with a plain list as the measure.
func TestSteps(t *testing.T) {
	names := []string{"", "a", "b", "ab", "\xff"}
	for seed := range int64(20) {
		r := rand.New(rand.NewSource(seed))
		var l []string
		b := bag.New()
		for range 400 {
			s := names[r.Intn(len(names))]
			if r.Intn(2) == 0 {
				b.Add(s)
				l = append(l, s)
				continue
			}
			i := slices.Index(l, s)
			if got := b.Take(s); got != (i >= 0) {
				t.Fatalf("seed %d: Take %q of %q: %v", seed, s, l, got)
			}
			if i >= 0 {
				l = slices.Delete(l, i, i+1)
			}
			hold(t, seed, b, l, names...)
		}
		if !bag.Same(b, bag.Of(l)) || !bag.Same(bag.Of(l), b) {
			t.Error("seed", seed, l)
		}
	}
}

// TestMany: P3.1, many strings, and many occurrences of one.
func TestMany(t *testing.T) {
	b := bag.New()
	const n = 20000
	for i := range n {
		b.Add(fmt.Sprintf("%05d", (i*7919)%n))
		b.Add("one")
		if b.Len() != 2*(i+1) {
			t.Fatal(i, b.Len())
		}
	}
	k := b.Kinds()
	if len(k) != n+1 || b.Count("one") != n || k[0] != "00000" || k[n-1] != "19999" || k[n] != "one" || !slices.IsSorted(k) {
		t.Error(len(k), b.Count("one"))
	}
	for range n {
		b.Take("one")
	}
	if b.Len() != n || b.Take("one") || len(b.Kinds()) != n {
		t.Error(b.Len())
	}
}

// small are lists with up to two occurrences of each of three strings: 27 of them.
func small() [][]string {
	l := [][]string{nil}
	for _, s := range []string{"", "a", "ab"} {
		for _, x := range l {
			l = append(l, append(slices.Clone(x), s), append(slices.Clone(x), s, s))
		}
	}
	return l
}

// most is how often each string is in what a and b have of it by f.
func most(a, b []string, f func(n, m int) int) []string {
	var l []string
	for _, s := range kinds(slices.Concat(a, b)) {
		l = append(l, slices.Repeat([]string{s}, max(0, f(held(a, s), held(b, s))))...)
	}
	return l
}

// pair checks all that P3.2 and P3.3 say of the bags of two lists.
func pair(t *testing.T, l, m []string) {
	t.Helper()
	what := fmt.Sprintf("%q, %q", l, m)
	a, b := bag.Of(l), bag.Of(m)
	sum, rest := most(l, m, func(n, m int) int { return n + m }), most(l, m, func(n, m int) int { return n - m })
	hold(t, "Both "+what, bag.Both(a, b), sum, slices.Concat(l, m)...)
	hold(t, "Less "+what, bag.Less(a, b), rest, slices.Concat(l, m)...)
	hold(t, "Less of Both "+what, bag.Less(bag.Both(a, b), b), l, m...)
	within, over := true, true
	for _, s := range slices.Concat(l, m) {
		within = within && held(l, s) <= held(m, s)
		over = over && held(l, s) >= held(m, s)
	}
	if got := bag.Within(a, b); got != within {
		t.Error("Within", what, got)
	}
	if got := bag.Same(a, b); got != (within && over) {
		t.Error("Same", what, got)
	}
	if bag.Same(a, b) != (bag.Within(a, b) && bag.Within(b, a)) {
		t.Error("the same and within each other", what)
	}
	if !bag.Same(bag.Less(bag.Both(a, b), b), a) || !bag.Within(a, bag.Both(a, b)) || !bag.Within(bag.Less(a, b), a) {
		t.Error("the laws", what)
	}
	hold(t, "first of "+what, a, l, m...)
	hold(t, "second of "+what, b, m, l...)
}

// TestPairs: P3.2 and P3.3, all pairs of small bags.
func TestPairs(t *testing.T) {
	for _, l := range small() {
		for _, m := range small() {
			pair(t, l, m)
		}
	}
}

// TestPairsLong: P3.2 and P3.3, bags of many strings, also of such that have none in common.
func TestPairsLong(t *testing.T) {
	r := rand.New(rand.NewSource(5))
	list := func(n, names int) []string {
		var l []string
		for range n {
			l = append(l, fmt.Sprint(r.Intn(names)))
		}
		return l
	}
	for range 30 {
		pair(t, list(r.Intn(60), 12), list(r.Intn(60), 12))
	}
	pair(t, ascending(), slices.Concat(ascending(), ascending()))
	pair(t, []string{"a", "b"}, []string{"c", "d"})
	pair(t, slices.Repeat([]string{"a"}, 1000), slices.Repeat([]string{"a"}, 999))
}

// TestPairsByHand: P3.2, answers written down by hand.
func TestPairsByHand(t *testing.T) {
	of := func(s string) *bag.Bag { return bag.Of(strings.Fields(s)) }
	for _, c := range []struct {
		a, b         string
		same, within bool
		both, less   string
	}{
		{"", "", true, true, "", ""},
		{"a", "", false, false, "a", "a"},
		{"", "a", false, true, "a", ""},
		{"a a", "a", false, false, "a a a", "a"},
		{"a", "a a", false, true, "a a a", ""},
		{"a b a", "b a a", true, true, "a a a a b b", ""},
		{"a b", "a c", false, false, "a a b c", "b"},
		{"a a b", "a b b", false, false, "a a a b b b", "a"},
		{"b", "a b c", false, true, "a b b c", ""},
	} {
		a, b := of(c.a), of(c.b)
		if bag.Same(a, b) != c.same || bag.Within(a, b) != c.within {
			t.Error(c, bag.Same(a, b), bag.Within(a, b))
		}
		hold(t, c, bag.Both(a, b), strings.Fields(c.both), "a", "b", "c")
		hold(t, c, bag.Less(a, b), strings.Fields(c.less), "a", "b", "c")
	}
}

// TestOneTwice: P3.2, one bag as both arguments.
func TestOneTwice(t *testing.T) {
	for _, l := range small() {
		b := bag.Of(l)
		if !bag.Same(b, b) || !bag.Within(b, b) {
			t.Error(l)
		}
		hold(t, "Both", bag.Both(b, b), slices.Concat(l, l), "a")
		hold(t, "Less", bag.Less(b, b), nil, "a", "ab", "")
		hold(t, "as it was", b, l, "a", "ab", "")
	}
}

// TestTaken: P3.2 and P3.3, bags out of which strings were taken are as if these had never been there.
func TestTaken(t *testing.T) {
	for _, l := range small() {
		for _, gone := range []string{"", "a", "z"} {
			b := bag.Of(append([]string{gone, gone}, l...))
			if !b.Take(gone) || !b.Take(gone) {
				t.Fatal(l, gone)
			}
			a := bag.Of(l)
			if !bag.Same(a, b) || !bag.Same(b, a) || !bag.Within(a, b) || !bag.Within(b, a) {
				t.Errorf("%q without %q", l, gone)
			}
			hold(t, "Both", bag.Both(a, b), slices.Concat(l, l), gone)
			hold(t, "Less", bag.Less(a, b), nil, gone)
		}
	}
}

// TestNewBags: P3.2 and P3, what Both and Less return goes its own way, and so do the arguments.
func TestNewBags(t *testing.T) {
	for _, empty := range []*bag.Bag{bag.New(), bag.Of(nil)} {
		l := []string{"a", "a", "b"}
		for name, f := range map[string]func(a *bag.Bag) *bag.Bag{
			"Both":       func(a *bag.Bag) *bag.Bag { return bag.Both(a, empty) },
			"Both, last": func(a *bag.Bag) *bag.Bag { return bag.Both(empty, a) },
			"Less":       func(a *bag.Bag) *bag.Bag { return bag.Less(a, empty) },
		} {
			a := bag.Of(l)
			first, second := f(a), f(a)
			first.Add("a")
			first.Add("c")
			first.Take("b")
			hold(t, name, a, l, "c")
			hold(t, name, second, l, "c")
			hold(t, name, empty, nil, "a", "b", "c")
			a.Take("a")
			a.Add("d")
			hold(t, name, second, l, "d")
			hold(t, name, first, []string{"a", "a", "a", "c"}, "b", "d")
		}
	}
}

// TestMemory: P3, the list of Of stays as it is and is not kept, and Kinds returns memory of its own.
func TestMemory(t *testing.T) {
	whole := []string{"b", "a", "b", "z", "y"}
	l := whole[:3]
	b := bag.Of(l)
	if !slices.Equal(whole, []string{"b", "a", "b", "z", "y"}) {
		t.Error("the list was changed", whole)
	}
	for i := range whole {
		whole[i] = "changed"
	}
	hold(t, "the list was kept", b, []string{"a", "b", "b"}, "changed", "z")
	first, second := b.Kinds(), b.Kinds()
	spare := first[:cap(first)]
	for i := range spare {
		spare[i] = "changed"
	}
	if !slices.Equal(second, []string{"a", "b"}) {
		t.Error("two answers share memory", second)
	}
	hold(t, "an answer was changed", b, []string{"a", "b", "b"}, "changed")
	b.Add("c")
	b.Take("a")
	if !slices.Equal(second, []string{"a", "b"}) {
		t.Error("an answer goes on changing", second)
	}
}
