package expr

import (
	"weathercock/api"
	"weathercock/value"
)

// The limits of a valid expression that package api does not name.
const (
	maxRel        = 15
	maxOperations = 200
	maxOperands   = 2
)

// What operands may be, where that is not one kind besides Null.
const (
	anything = -1
	alike    = -2 // of one kind, or one of them Null
)

// need is what an operation requires.
type need struct {
	operands    int // how many
	of          int // their kind, unless they are Null; or anything, or alike
	yields      int // the kind of its values; one without operands says it itself
	rel, col    int // the greatest Rel and Col
	first, last int // the least and the greatest N
}

// needs are the requirements of the operations, by their numbers.
var needs = [...]need{
	api.OpConst: {},
	api.OpRef:   {rel: maxRel, col: api.MaxCols - 1},
	api.OpParam: {first: 1, last: api.MaxParams},
	api.OpAdd:   {operands: 2, of: api.Int, yields: api.Int},
	api.OpSub:   {operands: 2, of: api.Int, yields: api.Int},
	api.OpMul:   {operands: 2, of: api.Int, yields: api.Int},
	api.OpDiv:   {operands: 2, of: api.Int, yields: api.Int},
	api.OpNeg:   {operands: 1, of: api.Int, yields: api.Int},
	api.OpEq:    {operands: 2, of: alike, yields: api.Bool},
	api.OpNe:    {operands: 2, of: alike, yields: api.Bool},
	api.OpLt:    {operands: 2, of: alike, yields: api.Bool},
	api.OpLe:    {operands: 2, of: alike, yields: api.Bool},
	api.OpGt:    {operands: 2, of: alike, yields: api.Bool},
	api.OpGe:    {operands: 2, of: alike, yields: api.Bool},
	api.OpAnd:   {operands: 2, of: api.Bool, yields: api.Bool},
	api.OpOr:    {operands: 2, of: api.Bool, yields: api.Bool},
	api.OpNot:   {operands: 1, of: api.Bool, yields: api.Bool},
	api.OpIs:    {operands: 1, of: anything, yields: api.Bool},
}

// fits reports whether e has what its operation requires, whatever its operands are.
func fits(e api.Expr) bool {
	if e.Op < api.OpConst || e.Op > api.OpIs {
		return false
	}
	n := needs[e.Op]
	return len(e.L) == n.operands && fitsValue(e) && e.S == "" &&
		between(0, e.Rel, n.rel) && between(0, e.Col, n.col) && between(n.first, e.N, n.last)
}

// fitsValue reports whether V is what the operation of e requires.
func fitsValue(e api.Expr) bool {
	if e.Op == api.OpConst {
		return value.Right(e.V)
	}
	return e.V == api.Value{}
}

// suit reports whether op may have operands of these kinds; a kind that no operand has is Null.
func suit(op int, kinds [maxOperands]int) bool {
	a, b := kinds[0], kinds[1]
	switch of := needs[op].of; of {
	case anything:
		return true
	case alike:
		return a == b || a == api.Null || b == api.Null
	default:
		return (a == api.Null || a == of) && (b == api.Null || b == of)
	}
}

// between reports whether n is from low to high.
func between(low, n, high int) bool { return low <= n && n <= high }
