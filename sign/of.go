package sign

import (
	"maps"
	"math/bits"
	"slices"
	"strconv"

	"weathercock/api"
	"weathercock/expr"
)

// Within returns which of l refer to tables, and to tables of set only.
func Within(l []api.Expr, set int) []int {
	if set < 0 {
		return nil
	}
	var out []int
	for i, e := range l {
		if t := expr.Tables(e); t != 0 && t&^set == 0 {
			out = append(out, i)
		}
	}
	return out
}

// Of returns the signature of the core tables set of b: the same for all blocks that ask the same of the same tables.
func Of(b api.Block, set int) (string, api.Errno) {
	if !isPart(b, set) {
		return "", api.ErrArg
	}
	known, err := normals(renumbered(b.Conds, set))
	if err != api.OK {
		return "", err
	}
	out := []byte("S")
	for i, t := range b.Tables[:b.Core] {
		if set>>i&1 == 1 {
			out = strconv.AppendInt(out, int64(t), 10)
			out = append(out, ' ')
		}
	}
	for _, s := range slices.Sorted(maps.Keys(known)) {
		out = append(out, s...)
		out = append(out, ';')
	}
	return string(out), api.OK
}

// isPart reports whether set is a set of core tables of b, all of whose Conds are valid.
func isPart(b api.Block, set int) bool {
	if b.Core < 1 || b.Core > api.MaxCore || len(b.Tables) < b.Core || set < 1 || set >= 1<<b.Core {
		return false
	}
	for _, e := range b.Conds {
		if !expr.Right(e) {
			return false
		}
	}
	return true
}

// renumbered are those of l that are Within set, with the tables of set numbered from 0 on.
func renumbered(l []api.Expr, set int) []api.Expr {
	var number func(e api.Expr) api.Expr
	number = func(e api.Expr) api.Expr {
		e.Rel = bits.OnesCount(uint(set & (1<<e.Rel - 1)))
		e.L = changed(e.L, number)
		return e
	}
	var out []api.Expr
	for _, i := range Within(l, set) {
		out = append(out, number(l[i]))
	}
	return out
}
