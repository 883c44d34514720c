package tree

import "kiln/api"

func (p *parser) pat() int { return p.phrase(aPat, p.pattern) }

func (p *parser) pattern() int {
	if !p.isLayered() {
		return p.typed(api.PTyped, p.infixes(p.patterns()))
	}
	at := p.here()
	return p.typed(api.PTyped, p.layered(at, p.plain()))
}

// isLayered tells whether a plain name is next, and `as` or `:` behind it.
func (p *parser) isLayered() bool {
	behind := 1
	if p.is("op") {
		behind = 2
	} else if !isName(p.look(0)) {
		return false
	}
	return p.isAt(behind, "as") || p.isAt(behind, ":")
}

// layered takes what is behind a name: a type or not, `as` and a pattern or not. Only the `as` tells whether the name is a pattern by itself, so it is a node behind the type.
func (p *parser) layered(at place, name string) int {
	t := none
	if p.take(":") {
		t = p.ty()
	}
	if !p.take("as") {
		return p.withType(p.put(at, api.PName, name), t)
	}
	return p.put(at, api.PAs, name, p.withType(p.pat(), t))
}

func (p *parser) withType(n, t int) int {
	if t == none {
		return n
	}
	return p.join(api.PTyped, n, t)
}

func (p *parser) apppat() int {
	if p.look(0).Kind != api.TName && !p.is("op") || !p.begins(anAtpat) {
		return p.atpat()
	}
	f := p.valueName(api.PName)
	if !p.begins(anAtpat) {
		return f
	}
	return p.join(api.PApp, f, p.atpat())
}

func (p *parser) atpat() int {
	if !p.begins(anAtpat) {
		p.refuse()
	}
	at := p.here()
	if k := constantOf(p.look(0)); k != 0 {
		return p.put(at, k, p.next().Text)
	}
	switch {
	case p.take("_"):
		return p.put(at, api.PWild, "")
	case p.take("("):
		return p.patParenthesis(at)
	case p.take("["):
		return p.put(at, api.PList, "", p.enclosed("]", p.pat)...)
	case p.take("{"):
		return p.put(at, api.PRecord, "", p.fields()...)
	}
	return p.valueName(api.PName)
}

// patParenthesis takes what is behind `(`.
func (p *parser) patParenthesis(at place) int {
	l := p.enclosed(")", p.pat)
	if len(l) == 1 {
		return l[0]
	}
	return p.put(at, api.PTuple, "", l...)
}

// fields takes what is behind `{`.
func (p *parser) fields() []int {
	if p.take("}") {
		return nil
	}
	var l []int
	for {
		if at := p.here(); p.take("...") {
			l = append(l, p.put(at, api.PDots, ""))
			break
		}
		l = append(l, p.field())
		if !p.take(",") {
			break
		}
	}
	p.want("}")
	return l
}

func (p *parser) field() int {
	at := p.here()
	named := isName(p.look(0))
	label := p.label()
	if named && !p.is("=") {
		return p.put(at, api.NField, label, p.layered(at, label))
	}
	p.want("=")
	return p.put(at, api.NField, label, p.pat())
}
