package denote

import (
	"iter"

	"weathercock/api"
	"weathercock/expr"
	"weathercock/row"
)

// result is what a block has yielded so far.
type result struct {
	rows   [][]api.Value
	failed bool
	known  map[string]struct{} // the rows, encoded, where only the first one of equal ones is kept
}

func newResult(distinct bool) *result {
	if distinct {
		return &result{known: map[string]struct{}{}}
	}
	return &result{}
}

// add adds a row, unless only the first one of equal rows is kept and there is one.
func (o *result) add(r []api.Value) {
	if o.known != nil {
		// The values of a block that fits are valid, and so few that there is an encoding.
		s, _ := row.Encode(r)
		if _, ok := o.known[s]; ok {
			return
		}
		o.known[s] = struct{}{}
	}
	o.rows = append(o.rows, r)
}

// listRows adds a row for each combination that is used.
func (x *setting) listRows(out *result) {
	l := asked(x.Items)
	for rows := range x.used(out) {
		if r, ok := x.values(l, rows, out); ok {
			out.add(r)
		}
	}
}

// asked returns what is evaluated for each of items. An AggCount has nothing of its own, and any value that cannot fail will do.
func asked(items []api.Item) []api.Expr {
	l := make([]api.Expr, 0, len(items))
	for _, x := range items {
		if x.Agg == api.AggCount {
			x.E = api.Expr{Op: api.OpConst}
		}
		l = append(l, x.E)
	}
	return l
}

// used visits the rows of the combinations that neither are removed by After or Unsafe nor fail there.
func (x *setting) used(out *result) iter.Seq[[][]api.Value] {
	return func(yield func([][]api.Value) bool) {
		for c := range x.outer(x.core()) {
			rows := x.rows(c)
			if x.hold(x.After, rows) && x.passes(rows, out) && !yield(rows) {
				return
			}
		}
	}
}

// passes reports whether all of Unsafe are true; what stands behind the first one that is not is not evaluated.
func (x *setting) passes(rows [][]api.Value, out *result) bool {
	for _, e := range x.Unsafe {
		if v, ok := x.value(e, rows, out); !ok || !isTrue(v) {
			return false
		}
	}
	return true
}

// values returns the values of l, and whether none of them fails.
func (x *setting) values(l []api.Expr, rows [][]api.Value, out *result) ([]api.Value, bool) {
	values := make([]api.Value, 0, len(l))
	for _, e := range l {
		v, ok := x.value(e, rows, out)
		if !ok {
			return nil, false
		}
		values = append(values, v)
	}
	return values, true
}

// value returns the value of e, and whether there is one; if not, something has failed.
func (x *setting) value(e api.Expr, rows [][]api.Value, out *result) (api.Value, bool) {
	v, err := expr.Eval(e, rows, x.params)
	if err != api.OK {
		out.failed = true
		return api.Value{}, false
	}
	return v, true
}
