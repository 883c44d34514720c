package tree

import "kiln/api"

func (p *parser) strbind() int {
	at := p.here()
	name := p.name()
	return p.put(at, api.NStr, name, p.ascribed())
}

func (p *parser) functor() int {
	at := p.here()
	name := p.name()
	p.want("(")
	parameter := p.sigspec()
	p.want(")")
	return p.put(at, api.NFct, name, parameter, p.ascribed())
}

// ascribed takes a structure that is bound, with the signature that stands ahead of it, as if that stood behind it.
func (p *parser) ascribed() int {
	kind, sig := p.ascription()
	p.want("=")
	s := p.str()
	if sig == none {
		return s
	}
	return p.join(kind, s, sig)
}

// ascription takes a signature and the sign ahead of it, if there is one: the kind of node that is made of a structure and it.
func (p *parser) ascription() (api.NodeKind, int) {
	switch {
	case p.take(":"):
		return api.STrans, p.sig()
	case p.take(":>"):
		return api.SOpaque, p.sig()
	}
	return 0, none
}

func (p *parser) str() int { return p.phrase(aStr, p.structure) }

func (p *parser) structure() int {
	s := p.str1()
	for {
		kind, sig := p.ascription()
		if sig == none {
			return s
		}
		s = p.join(kind, s, sig)
	}
}

func (p *parser) str1() int {
	at := p.here()
	switch {
	case p.take("struct"):
		d := p.decs()
		p.want("end")
		return p.put(at, api.SStruct, "", d)
	case p.take("let"):
		d := p.decs()
		p.want("in")
		s := p.str()
		p.want("end")
		return p.put(at, api.SLet, "", d, s)
	case isName(p.look(0)) && p.isAt(1, "("):
		return p.application(at)
	}
	return p.structureName()
}

func (p *parser) structureName() int {
	at := p.here()
	return p.putNamed(at, api.SName, p.long())
}

func (p *parser) application(at place) int {
	name := p.name()
	p.want("(")
	take := p.str
	if p.begins(aDec) || p.is(")") || p.is(";") {
		take = p.bareStruct
	}
	s := take()
	p.want(")")
	return p.put(at, api.SApp, name, s)
}

// bareStruct takes declarations that are a structure by themselves.
func (p *parser) bareStruct() int { return p.join(api.SStruct, p.decs()) }

// sigbind takes a name and the signature that it is to stand for.
func (p *parser) sigbind() int { return p.namedSig("=") }

// sigspec takes a structure's name and its signature.
func (p *parser) sigspec() int { return p.namedSig(":") }

func (p *parser) namedSig(between string) int {
	at := p.here()
	name := p.name()
	p.want(between)
	return p.put(at, api.NSig, name, p.sig())
}

func (p *parser) sig() int { return p.phrase(aSig, p.signature) }

func (p *parser) signature() int {
	s := p.sig1()
	for p.take("where") {
		s = p.join(api.GWhere, s, p.where())
	}
	return s
}

func (p *parser) sig1() int {
	at := p.here()
	if !p.take("sig") {
		return p.put(at, api.GName, p.name())
	}
	var l []int
	for p.begins(aSpec) {
		if n := p.spec(); n != none {
			l = append(l, n)
		}
	}
	p.want("end")
	return p.put(at, api.GSig, "", l...)
}

// where takes what is behind the word.
func (p *parser) where() int {
	at := p.here()
	p.want("type")
	vars := p.tyvars()
	t := p.long()
	p.want("=")
	return p.putNamed(at, api.NWhere, t, append(vars, p.ty())...)
}

// spec takes a specification: none, if that is a semicolon.
func (p *parser) spec() int { return p.phrase(aSpec, p.specification) }

func (p *parser) specification() int {
	at := p.here()
	switch p.next().Text {
	case "val":
		return p.group(at, api.XVal, p.valspec)
	case "type":
		return p.types(at)
	case "eqtype":
		return p.group(at, api.XEq, p.typespec)
	case "datatype":
		return p.group(at, api.XData, p.datbind)
	case "exception":
		return p.group(at, api.XExn, p.exnspec)
	case "structure":
		return p.group(at, api.XStr, p.sigspec)
	}
	return none
}

func (p *parser) valspec() int {
	at := p.here()
	name := p.name()
	p.want(":")
	return p.put(at, api.NCon, name, p.ty())
}

// types takes what is behind `type`: the first name tells whether all of them are to stand for a type.
func (p *parser) types(at place) int {
	first := p.head()
	kind, take, takeFirst := api.XType, p.typespec, p.typespecOf
	if p.is("=") {
		kind, take, takeFirst = api.XAlias, p.tybind, p.tybindOf
	}
	l := []int{takeFirst(first)}
	for p.take("and") {
		l = append(l, take())
	}
	return p.put(at, kind, "", l...)
}

func (p *parser) typespec() int { return p.typespecOf(p.head()) }

func (p *parser) typespecOf(h head) int { return p.put(h.at, api.NCon, h.name, h.vars...) }

func (p *parser) exnspec() int {
	at := p.here()
	return p.conOf(at, p.name())
}
