package tree

import "kiln/api"

func (p *parser) exp() int { return p.phrase(anExp, p.handled) }

func (p *parser) handled() int {
	e := p.or()
	for p.take("handle") {
		e = p.join(api.EHandle, append([]int{e}, p.match()...)...)
	}
	return e
}

func (p *parser) or() int {
	e := p.and()
	for p.take("orelse") {
		e = p.join(api.EOr, e, p.and())
	}
	return e
}

func (p *parser) and() int {
	e := p.operand()
	for p.take("andalso") {
		e = p.join(api.EAnd, e, p.operand())
	}
	return e
}

func (p *parser) operand() int {
	at := p.here()
	switch {
	case p.take("if"):
		return p.conditional(at)
	case p.take("while"):
		c := p.exp()
		p.want("do")
		return p.put(at, api.EWhile, "", c, p.exp())
	case p.take("case"):
		e := p.exp()
		p.want("of")
		return p.put(at, api.ECase, "", append([]int{e}, p.match()...)...)
	case p.take("fn"):
		return p.put(at, api.EFn, "", p.match()...)
	case p.take("raise"):
		return p.put(at, api.ERaise, "", p.exp())
	}
	return p.typed(api.ETyped, p.infixes(p.expressions()))
}

// conditional takes what is behind `if`.
func (p *parser) conditional(at place) int {
	c := p.exp()
	p.want("then")
	yes := p.exp()
	p.want("else")
	return p.put(at, api.EIf, "", c, yes, p.exp())
}

// typed takes the types behind a phrase.
func (p *parser) typed(k api.NodeKind, n int) int {
	for p.take(":") {
		n = p.join(k, n, p.ty())
	}
	return n
}

func (p *parser) match() []int { return p.list("|", p.rule) }

func (p *parser) rule() int {
	left := p.pat()
	p.want("=>")
	return p.join(api.NRule, left, p.exp())
}

func (p *parser) app() int {
	f := p.atexp()
	for p.begins(anAtexp) {
		f = p.join(api.EApp, f, p.atexp())
	}
	return f
}

func (p *parser) atexp() int {
	if !p.begins(anAtexp) {
		p.refuse()
	}
	at := p.here()
	if k := constantOf(p.look(0)); k != 0 {
		return p.put(at, k, p.next().Text)
	}
	switch {
	case p.take("#"):
		return p.put(at, api.ESelect, p.label())
	case p.take("{"):
		return p.put(at, api.ERecord, "", p.enclosed("}", p.expField)...)
	case p.take("("):
		return p.parenthesis(at)
	case p.take("["):
		return p.put(at, api.EList, "", p.enclosed("]", p.exp)...)
	case p.take("let"):
		return p.let(at)
	}
	return p.valueName(api.EName)
}

// constantOf is the kind of node that a constant is; 0 of other tokens.
func constantOf(t api.Token) api.NodeKind {
	switch t.Kind {
	case api.TInt:
		return api.NInt
	case api.TReal:
		return api.NReal
	case api.TString:
		return api.NString
	case api.TChar:
		return api.NChar
	}
	return 0
}

// valueName takes a plain or a long name.
func (p *parser) valueName(k api.NodeKind) int {
	at := p.here()
	if p.is("op") {
		return p.put(at, k, p.plain())
	}
	return p.putNamed(at, k, p.long())
}

// plain takes a name that is not infix, or any one, and `=`, with `op` ahead.
func (p *parser) plain() string {
	if p.take("op") && p.is("=") {
		return p.next().Text
	}
	return p.name()
}

func (p *parser) expField() int {
	at := p.here()
	label := p.label()
	p.want("=")
	return p.put(at, api.NField, label, p.exp())
}

// parenthesis takes what is behind `(`.
func (p *parser) parenthesis(at place) int {
	if p.take(")") {
		return p.put(at, api.ETuple, "")
	}
	kind, l := api.ETuple, []int{p.exp()}
	switch {
	case p.take(","):
		l = append(l, p.list(",", p.exp)...)
	case p.take(";"):
		kind = api.ESeq
		l = append(l, p.list(";", p.exp)...)
	}
	p.want(")")
	if len(l) == 1 {
		return l[0]
	}
	return p.put(at, kind, "", l...)
}

// let takes what is behind `let`.
func (p *parser) let(at place) int {
	d := p.decs()
	p.want("in")
	l := p.list(";", p.exp)
	p.want("end")
	return p.put(at, api.ELet, "", append([]int{d}, l...)...)
}
