package bind

import "weathercock/api"

// maxOperations is the number of operations that an expression consists of at most; package api does not name it.
const maxOperations = 200

// name is that of a column: with what its table is called, or with nothing if it stands alone.
type name struct{ table, column string }

// found is where the column of a name is, and how many columns have this name.
type found struct{ rel, col, many int }

// scope is the names that columns of visible tables have.
type scope map[name]found

// show makes the columns of the table rel visible, which is called alias.
func (s scope) show(rel int, alias string, cols []api.Column) {
	for col, c := range cols {
		s.add(name{column: c.Name}, rel, col)
		// A table that is called nothing has no names but those that stand alone.
		if alias != "" {
			s.add(name{alias, c.Name}, rel, col)
		}
	}
}

func (s scope) add(n name, rel, col int) { s[n] = found{rel, col, s[n].many + 1} }

// replaced returns e with an OpRef in place of every OpName, in memory of its own; e must be small.
func (s scope) replaced(e api.Expr) api.Expr {
	if e.Op == api.OpName {
		f := s[name{e.S, e.V.S}]
		refuse(f.many != 1, api.ErrName)
		return api.Expr{Op: api.OpRef, Rel: f.rel, Col: f.col}
	}
	var l []api.Expr
	for _, x := range e.L {
		l = append(l, s.replaced(x))
	}
	e.L = l
	return e
}

// isSmall reports whether e is neither too deep nor has too many operations, with those below an OpName.
func isSmall(e api.Expr) bool {
	left := maxOperations
	var small func(e api.Expr, depth int) bool
	// The bounds come first: an operand may contain itself, or stand in so many places that they cannot all be visited.
	small = func(e api.Expr, depth int) bool {
		if left == 0 || depth > api.MaxDepth {
			return false
		}
		left--
		for _, x := range e.L {
			if !small(x, depth+1) {
				return false
			}
		}
		return true
	}
	return small(e, 1)
}
