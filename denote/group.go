package denote

import (
	"slices"

	"weathercock/api"
	"weathercock/row"
	"weathercock/value"
)

// group is the combinations whose Keys have the same values.
type group struct {
	keys    []api.Value
	tallies []tally // one for each of the Items
}

// tally is what a group has of the values of an item.
type tally struct {
	all   int // how many values there are
	many  int // how many of them are not Null
	first api.Value
	least api.Value // of those that are not Null, as what follows
	most  api.Value
	sum   sum
}

// groups are found by the encoding of their keys.
type groups struct {
	items  []api.Item
	places map[string]int
	l      []group
}

// groupRows adds a row for each group of the combinations that are used.
func (x *setting) groupRows(out *result) {
	g := groups{items: x.Items, places: map[string]int{}}
	if len(x.Keys) == 0 {
		// The only group is there even if it stays empty.
		g.find(nil)
	}
	items := asked(x.Items)
	for rows := range x.used(out) {
		keys, ok := x.values(x.Keys, rows, out)
		if !ok {
			continue
		}
		if l, ok := x.values(items, rows, out); ok {
			g.find(keys).add(l)
		}
	}
	g.tell(out)
}

// find returns the group with those keys.
func (g *groups) find(keys []api.Value) *group {
	s, _ := row.Encode(keys)
	at, ok := g.places[s]
	if !ok {
		at = len(g.l)
		g.places[s] = at
		g.l = append(g.l, group{keys, make([]tally, len(g.items))})
	}
	return &g.l[at]
}

// tell adds the rows of the groups, in ascending order of their keys.
func (g *groups) tell(out *result) {
	slices.SortFunc(g.l, func(a, b group) int { return row.Compare(a.keys, b.keys) })
	for _, x := range g.l {
		if r, ok := x.row(g.items); ok {
			out.add(r)
		} else {
			out.failed = true
		}
	}
}

// add adds a combination with those values of the items.
func (x *group) add(l []api.Value) {
	for i, v := range l {
		x.tallies[i].add(v)
	}
}

// row returns the row that the group yields, and whether it does not fail.
func (x *group) row(items []api.Item) ([]api.Value, bool) {
	r := make([]api.Value, 0, len(items))
	for i, item := range items {
		v, ok := x.tallies[i].aggregate(item.Agg)
		if !ok {
			return nil, false
		}
		r = append(r, v)
	}
	return r, true
}

func (t *tally) add(v api.Value) {
	if t.all == 0 {
		t.first = v
	}
	t.all++
	if v.Kind == api.Null {
		return
	}
	if t.many == 0 || value.Compare(v, t.least) < 0 {
		t.least = v
	}
	if t.many == 0 || value.Compare(v, t.most) > 0 {
		t.most = v
	}
	t.many++
	t.sum.add(v.N)
}

// aggregate returns what the values are together, and whether that fits. Where there are no values, what is not a count is Null.
func (t *tally) aggregate(agg int) (api.Value, bool) {
	switch agg {
	case api.AggCount:
		return number(t.all), true
	case api.AggOf:
		return number(t.many), true
	case api.AggSum:
		if t.many == 0 {
			return api.Value{}, true
		}
		n, ok := t.sum.number()
		return number(n), ok
	case api.AggMin:
		return t.least, true
	case api.AggMax:
		return t.most, true
	}
	return t.first, true
}

// sum is the number high * 2^64 + low, modulo 2^128: both parts wrap around, so that no order of what is added overflows on the way.
type sum struct{ high, low uint64 }

func (s *sum) add(n int) {
	s.low += uint64(n)
	if s.low < uint64(n) {
		s.high++
	}
	s.high += sign(n)
}

// number returns the sum, and whether it fits into 64 bits.
func (s sum) number() (int, bool) {
	n := int(s.low)
	return n, s.high == sign(n)
}

// sign returns the high part of n: 64 times its sign bit.
func sign(n int) uint64 { return uint64(n >> 63) }

func number(n int) api.Value { return api.Value{Kind: api.Int, N: n} }
