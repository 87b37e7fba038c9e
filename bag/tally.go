package bag

import (
	"cmp"
	"maps"
	"slices"
)

// tally is how often each thing is there.
type tally[T cmp.Ordered] struct {
	// counts has only numbers above 0, so that equal tallies have equal maps.
	counts map[T]int
	// total is the sum of counts.
	total int
}

func newTally[T cmp.Ordered]() tally[T] { return tally[T]{counts: map[T]int{}} }

// put adds n occurrences of x; n is above 0.
func (t *tally[T]) put(x T, n int) {
	t.counts[x] += n
	t.total += n
}

// putAll adds every occurrence of another tally.
func (t *tally[T]) putAll(other tally[T]) {
	for x, n := range other.counts {
		t.put(x, n)
	}
}

// takeOne removes one occurrence of x, and reports whether there was one.
func (t *tally[T]) takeOne(x T) bool {
	n := t.counts[x]
	switch n {
	case 0:
		return false
	case 1:
		delete(t.counts, x)
	default:
		t.counts[x] = n - 1
	}
	t.total--
	return true
}

// ascending returns the things that are there, each once, the smallest first.
func (t *tally[T]) ascending() []T { return slices.Sorted(maps.Keys(t.counts)) }
