package parse

import (
	"weathercock/api"
	"weathercock/lex"
)

// maxOpen is how many or, not and sign may have begun and not ended where another one begins.
const maxOpen = 60

// operator is a word or a sign, and the operation that it becomes.
type operator struct {
	s  string
	op int
}

// begin begins an or, a not or a sign; its first token need not be permitted to be one too deep.
func (p *parser) begin() {
	if p.open == maxOpen {
		panic(p.wrong(api.ErrLong))
	}
	p.open++
}

// end ends what begin began.
func (p *parser) end() { p.open-- }

func (p *parser) or() api.Expr {
	p.begin()
	defer p.end()
	return p.chain(p.and, operator{"or", api.OpOr})
}

func (p *parser) and() api.Expr { return p.chain(p.not, operator{"and", api.OpAnd}) }

func (p *parser) not() api.Expr {
	p.begin()
	defer p.end()
	if p.take("not") {
		return apply(api.OpNot, p.not())
	}
	return p.test()
}

func (p *parser) test() api.Expr {
	e := p.sum()
	if p.take("is") {
		return p.nullness(e)
	}
	op, ok := p.operation(
		operator{"=", api.OpEq}, operator{"<>", api.OpNe},
		operator{"<", api.OpLt}, operator{"<=", api.OpLe},
		operator{">", api.OpGt}, operator{">=", api.OpGe},
	)
	if ok {
		return apply(op, e, p.sum())
	}
	return e
}

// nullness reads what stands behind the IS of a test of e.
func (p *parser) nullness(e api.Expr) api.Expr {
	negated := p.take("not")
	p.need("null")
	e = apply(api.OpIs, e)
	if negated {
		return apply(api.OpNot, e)
	}
	return e
}

func (p *parser) sum() api.Expr {
	return p.chain(p.prod, operator{"+", api.OpAdd}, operator{"-", api.OpSub})
}

func (p *parser) prod() api.Expr {
	return p.chain(p.sign, operator{"*", api.OpMul}, operator{"/", api.OpDiv})
}

func (p *parser) sign() api.Expr {
	p.begin()
	defer p.end()
	if p.take("-") {
		return apply(api.OpNeg, p.sign())
	}
	return p.atom()
}

func (p *parser) atom() api.Expr {
	switch p.look().Kind {
	case lex.Number:
		return constant(api.Value{Kind: api.Int, N: p.read(lex.Number).N})
	case lex.Text:
		return constant(text(p.read(lex.Text)))
	case lex.Param:
		return api.Expr{Op: api.OpParam, N: p.read(lex.Param).N}
	case lex.Name:
		return p.column()
	}
	switch {
	case p.take("true"):
		return constant(api.Value{Kind: api.Bool, N: 1})
	case p.take("false"):
		return constant(api.Value{Kind: api.Bool})
	case p.take("null"):
		return constant(api.Value{})
	case p.take("("):
		e := p.or()
		p.need(")")
		return e
	}
	panic(p.wrong(api.ErrSyntax))
}

// column reads a name, with the name of its table if there is one ahead of it.
func (p *parser) column() api.Expr {
	first := p.read(lex.Name)
	if p.take(".") {
		return api.Expr{Op: api.OpName, S: first.S, V: text(p.read(lex.Name))}
	}
	return api.Expr{Op: api.OpName, V: text(first)}
}

// chain reads what one reads, once or more often, with one of those operators between: the leftmost one is applied first.
func (p *parser) chain(one func() api.Expr, between ...operator) api.Expr {
	e := one()
	for {
		op, ok := p.operation(between...)
		if !ok {
			return e
		}
		e = apply(op, e, one())
	}
}

// operation reads the next token if it is one of those operators, and returns the operation, and whether it is one.
func (p *parser) operation(of ...operator) (int, bool) {
	for _, x := range of {
		if p.take(x.s) {
			return x.op, true
		}
	}
	return 0, false
}

// apply returns an operation of operands; the list is each caller's own.
func apply(op int, operands ...api.Expr) api.Expr { return api.Expr{Op: op, L: operands} }

func constant(v api.Value) api.Expr { return api.Expr{Op: api.OpConst, V: v} }

// text returns the value whose text is that of t.
func text(t lex.Token) api.Value { return api.Value{Kind: api.Text, S: t.S} }
