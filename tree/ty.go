package tree

import "kiln/api"

func (p *parser) ty() int { return p.phrase(aTy, p.arrow) }

func (p *parser) arrow() int {
	from := p.product()
	if !p.take("->") {
		return from
	}
	return p.join(api.TArrow, from, p.ty())
}

func (p *parser) product() int {
	l := []int{p.applied()}
	for isStar(p.look(0)) {
		p.next()
		l = append(l, p.applied())
	}
	if len(l) == 1 {
		return l[0]
	}
	return p.join(api.TTuple, l...)
}

// applied takes a type and the names of those that it is an argument of.
func (p *parser) applied() int {
	t := p.atty()
	for p.isTypeName() {
		t = p.typeApp(t)
	}
	return t
}

func (p *parser) isTypeName() bool { return p.look(0).Kind == api.TName && !isStar(p.look(0)) }

// typeApp takes the name behind its arguments.
func (p *parser) typeApp(args ...int) int {
	return p.putNamed(p.placeOf(args[0]), api.TCon, p.next(), args...)
}

func (p *parser) atty() int {
	at := p.here()
	switch {
	case p.look(0).Kind == api.TTyvar:
		return p.tyvar()
	case p.isTypeName():
		return p.putNamed(at, api.TCon, p.next())
	case p.take("{"):
		return p.put(at, api.TRec, "", p.enclosed("}", p.tyField)...)
	}
	p.want("(")
	l := p.list(",", p.ty)
	p.want(")")
	if len(l) == 1 {
		return l[0]
	}
	if !p.isTypeName() {
		p.refuse()
	}
	return p.typeApp(l...)
}

func (p *parser) tyField() int {
	at := p.here()
	label := p.label()
	p.want(":")
	return p.put(at, api.NField, label, p.ty())
}
