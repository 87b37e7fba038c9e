package denote

import (
	"iter"
	"math/bits"
	"slices"

	"weathercock/api"
	"weathercock/expr"
)

// noRow stands in a combination for a table of which it has no row.
const noRow = -1

// setting is a block with all that its expressions are evaluated with.
type setting struct {
	api.Block
	params []api.Value
	tables [][][]api.Value // the rows of each of the Tables
	nulls  [][]api.Value   // a row of Nulls for each of the Tables
}

// newSetting returns the setting of b, and whether b fits l. A block that Bind has made does.
func newSetting(l []api.Table, params []api.Value, b api.Block) (*setting, bool) {
	others := len(b.Tables) - b.Core
	if b.Core < 1 || b.Core > api.MaxCore || others > api.MaxOuter || len(b.Kinds) != others || len(b.On) != others {
		return nil, false
	}
	x := &setting{Block: b, params: params}
	for _, t := range b.Tables {
		// The rows are counted, too: a call with tables that may not be shall end within reason.
		if t < 0 || t >= len(l) || len(l[t].Rows) > api.MaxRows {
			return nil, false
		}
		x.tables = append(x.tables, l[t].Rows)
		x.nulls = append(x.nulls, make([]api.Value, len(l[t].Cols)))
	}
	return x, true
}

// areOfCore reports whether all of l are combinations of the first Core tables.
func (x *setting) areOfCore(l [][]int) bool {
	for _, c := range l {
		if len(c) != x.Core {
			return false
		}
		for i, n := range c {
			if n < noRow || n >= len(x.tables[i]) {
				return false
			}
		}
	}
	return true
}

// core visits the combinations of the first Core tables for which all of Conds are true, in lexicographic order. Each one that a visit yields stays only until the next.
func (x *setting) core() iter.Seq[[]int] {
	var visit iter.Seq[[]int] = func(yield func([]int) bool) { yield(nil) }
	for i := range x.Core {
		conds := x.due(i)
		visit = extended(visit, func(c []int) iter.Seq[int] { return x.matches(c, i, conds) })
	}
	return visit
}

// due returns those of Conds that can be asked when the table i has come in, and not ahead of it: what they leave out need not be gone through.
func (x *setting) due(i int) []api.Expr {
	var out []api.Expr
	for _, e := range x.Conds {
		last := bits.Len(uint(expr.Tables(e))) - 1
		if i == min(max(last, 0), x.Core-1) {
			out = append(out, e)
		}
	}
	return out
}

// outer visits the combinations that those of core become when the other tables come in, one after the other.
func (x *setting) outer(visit iter.Seq[[]int]) iter.Seq[[]int] {
	for i, kind := range x.Kinds {
		visit = extended(visit, func(c []int) iter.Seq[int] {
			found := x.matches(c, x.Core+i, x.On[i:i+1])
			if kind == api.Left {
				return orNoRow(found)
			}
			return noRowIfAny(found)
		})
	}
	return visit
}

// matches visits the numbers of the rows of the table i for which conds are true, beside the rows of c.
func (x *setting) matches(c []int, i int, conds []api.Expr) iter.Seq[int] {
	return func(yield func(int) bool) {
		rows := x.rows(c)
		for n, r := range x.tables[i] {
			rows[i] = r
			if x.hold(conds, rows) && !yield(n) {
				return
			}
		}
	}
}

// rows returns the row of each table in the combination c. A table that is not in it has no row yet.
func (x *setting) rows(c []int) [][]api.Value {
	rows := slices.Clone(x.nulls)
	for i, n := range c {
		if n != noRow {
			rows[i] = x.tables[i][n]
		}
	}
	return rows
}

// hold reports whether all of conds are true.
func (x *setting) hold(conds []api.Expr, rows [][]api.Value) bool {
	for _, e := range conds {
		if v, err := expr.Eval(e, rows, x.params); err != api.OK || !isTrue(v) {
			return false
		}
	}
	return true
}

// extended visits each combination of visit with each number that next has for it.
func extended(visit iter.Seq[[]int], next func(c []int) iter.Seq[int]) iter.Seq[[]int] {
	return func(yield func([]int) bool) {
		var out []int
		for c := range visit {
			for n := range next(c) {
				out = append(append(out[:0], c...), n)
				if !yield(out) {
					return
				}
			}
		}
	}
}

// orNoRow visits the numbers of found, or noRow if there are none.
func orNoRow(found iter.Seq[int]) iter.Seq[int] {
	return func(yield func(int) bool) {
		none := true
		for n := range found {
			none = false
			if !yield(n) {
				return
			}
		}
		if none {
			yield(noRow)
		}
	}
}

// noRowIfAny visits noRow if there are numbers of found, and nothing otherwise.
func noRowIfAny(found iter.Seq[int]) iter.Seq[int] {
	return func(yield func(int) bool) {
		for range found {
			yield(noRow)
			return
		}
	}
}

// collected returns copies of the combinations of visit.
func collected(visit iter.Seq[[]int]) [][]int {
	var out [][]int
	for c := range visit {
		out = append(out, slices.Clone(c))
	}
	return out
}

func isTrue(v api.Value) bool { return v.Kind == api.Bool && v.N == 1 }
