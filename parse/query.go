package parse

import (
	"weathercock/api"
	"weathercock/lex"
)

func (p *parser) query() api.Query {
	q := api.Query{Selects: []api.Select{p.selection(0)}}
	for p.take("union") {
		p.need("all")
		q.Selects = append(q.Selects, p.selection(len(q.Selects)))
	}
	if p.take("order") {
		p.need("by")
		q.Order = list(p, p.key)
	}
	if p.look().Kind != 0 {
		panic(p.wrong(api.ErrSyntax))
	}
	return q
}

func (p *parser) key() api.Key {
	n := p.read(lex.Number).N
	return api.Key{Col: n - 1, Desc: p.take("desc")}
}

// selection reads a select, ahead of which there are so many.
func (p *parser) selection(ahead int) api.Select {
	first := p.need("select")
	if ahead == api.MaxBlocks {
		panic(fault{api.ErrLong, first.At})
	}
	s := api.Select{Distinct: p.take("distinct")}
	s.Items = list(p, p.item)
	p.need("from")
	s.From = p.tables()
	if p.take("where") {
		s.Where = []api.Expr{p.or()}
	}
	if p.take("group") {
		p.need("by")
		s.Group = list(p, p.or)
	}
	return s
}

func (p *parser) item() api.Item {
	agg := p.aggregate()
	if agg == api.AggNone {
		return api.Item{E: p.or()}
	}
	p.need("(")
	x := api.Item{Agg: agg}
	if agg == api.AggOf && p.take("*") {
		x.Agg = api.AggCount
	} else {
		x.E = p.or()
	}
	p.need(")")
	return x
}

// aggregate reads the word of an aggregate, if there is one; the one of COUNT(*) is that of COUNT(e), too.
func (p *parser) aggregate() int {
	switch {
	case p.take("count"):
		return api.AggOf
	case p.take("sum"):
		return api.AggSum
	case p.take("min"):
		return api.AggMin
	case p.take("max"):
		return api.AggMax
	}
	return api.AggNone
}

// tables reads all tables of a select: those that LEFT or SEMI introduces are counted apart, and none of the others follows them.
func (p *parser) tables() []api.From {
	core := []api.From{p.table(api.Inner, 0, api.MaxCore)}
	for p.sees(",") || p.sees("join") {
		core = append(core, p.inner(len(core)))
	}
	var outer []api.From
	for p.sees("left") || p.sees("semi") {
		outer = append(outer, p.outer(len(outer)))
	}
	return append(core, outer...)
}

// inner reads an Inner table behind the first one, with what introduces it.
func (p *parser) inner(ahead int) api.From {
	if p.take(",") {
		return p.table(api.Inner, ahead, api.MaxCore)
	}
	return p.join(api.Inner, ahead, api.MaxCore)
}

// outer reads a table that is not Inner, with what introduces it.
func (p *parser) outer(ahead int) api.From {
	if p.take("left") {
		return p.join(api.Left, ahead, api.MaxOuter)
	}
	p.need("semi")
	return p.join(api.Semi, ahead, api.MaxOuter)
}

// join reads a table with its ON.
func (p *parser) join(kind, ahead, most int) api.From {
	p.need("join")
	f := p.table(kind, ahead, most)
	p.need("on")
	f.On = []api.Expr{p.or()}
	return f
}

// table reads a table's names; so many of its sort are ahead of it, and so many are permitted.
func (p *parser) table(kind, ahead, most int) api.From {
	name := p.read(lex.Name)
	if ahead == most {
		panic(fault{api.ErrLong, name.At})
	}
	f := api.From{Table: name.S, Alias: name.S, Kind: kind}
	if p.look().Kind == lex.Name {
		f.Alias = p.read(lex.Name).S
	}
	return f
}
