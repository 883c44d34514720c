package tree

import (
	"maps"

	"kiln/api"
)

// decs takes declarations, in a scope of their own.
func (p *parser) decs() int {
	around := p.scope
	p.scope = around.inner()
	n := p.declarations()
	p.scope = around
	return n
}

// declarations takes declarations in the scope that is.
func (p *parser) declarations() int {
	at := p.here()
	var l []int
	for {
		switch {
		case p.take(";"):
		case p.begins(aDec):
			l = append(l, p.dec())
		default:
			return p.put(at, api.NDecs, "", l...)
		}
	}
}

func (p *parser) dec() int { return p.phrase(aDec, p.declaration) }

func (p *parser) declaration() int {
	at := p.here()
	word := p.next().Text
	switch word {
	case "val":
		return p.values(at)
	case "fun":
		return p.group(at, api.DFun, p.function)
	case "type":
		return p.group(at, api.DType, p.tybind)
	case "datatype":
		return p.datatype(at)
	case "exception":
		return p.group(at, api.DExn, p.exbind)
	case "local":
		return p.local(at)
	case "open":
		return p.put(at, api.DOpen, "", p.opened()...)
	case "structure":
		return p.group(at, api.DStr, p.strbind)
	case "signature":
		return p.group(at, api.DSig, p.sigbind)
	case "functor":
		return p.group(at, api.DFct, p.functor)
	}
	return p.directive(at, word)
}

func (p *parser) values(at place) int {
	kind := api.DVal
	if p.take("rec") {
		kind = api.DRec
	}
	return p.group(at, kind, p.bind)
}

func (p *parser) bind() int {
	left := p.pat()
	p.want("=")
	return p.join(api.NBind, left, p.exp())
}

func (p *parser) function() int {
	at := p.here()
	return p.put(at, api.NFun, "", p.list("|", p.clause)...)
}

func (p *parser) clause() int {
	at := p.here()
	take := p.prefixHead
	if p.isInfixClause() {
		take = p.infixHead
	}
	name, pats := take()
	t := none
	if p.take(":") {
		t = p.ty()
	}
	p.want("=")
	kids := []int{pats, p.exp()}
	if t != none {
		kids = append(kids, t)
	}
	return p.put(at, api.NClause, name, kids...)
}

func (p *parser) isInfixClause() bool {
	t := p.look(0)
	if isName(t) && !p.isInfix(t) {
		return p.isInfix(p.look(1))
	}
	return !p.is("op")
}

// prefixHead takes a function's name and its patterns: the name, and the NPats.
func (p *parser) prefixHead() (string, int) {
	name := p.plain()
	l := []int{p.atpat()}
	for p.begins(anAtpat) {
		l = append(l, p.atpat())
	}
	return name, p.join(api.NPats, l...)
}

// infixHead is prefixHead of a name between its two patterns.
func (p *parser) infixHead() (string, int) {
	left := p.atpat()
	if !p.isInfix(p.look(0)) {
		p.refuse()
	}
	at := p.here()
	name := p.next().Text
	both := p.put(at, api.PTuple, "", left, p.atpat())
	return name, p.join(api.NPats, both)
}

// head is what stands ahead in what names a type: type variables, and the name.
type head struct {
	at   place
	vars []int
	name string
}

func (p *parser) head() head {
	at := p.here()
	vars := p.tyvars()
	return head{at, vars, p.name()}
}

func (p *parser) tyvars() []int {
	switch {
	case p.take("("):
		l := p.list(",", p.tyvar)
		p.want(")")
		return l
	case p.look(0).Kind == api.TTyvar:
		return []int{p.tyvar()}
	}
	return nil
}

func (p *parser) tyvar() int {
	if p.look(0).Kind != api.TTyvar {
		p.refuse()
	}
	at := p.here()
	return p.put(at, api.TVar, p.next().Text)
}

func (p *parser) tybind() int { return p.tybindOf(p.head()) }

// tybindOf takes what is behind the head.
func (p *parser) tybindOf(h head) int {
	p.want("=")
	return p.put(h.at, api.NTybind, h.name, append(h.vars, p.ty())...)
}

func (p *parser) datatype(at place) int {
	if isName(p.look(0)) && p.isAt(1, "=") && p.isAt(2, "datatype") {
		return p.copied(at)
	}
	return p.group(at, api.DData, p.datbind)
}

// copied takes a datatype that is another one.
func (p *parser) copied(at place) int {
	name := p.name()
	p.want("=")
	p.want("datatype")
	from := p.here()
	return p.put(at, api.DCopy, name, p.putNamed(from, api.TCon, p.long()))
}

func (p *parser) datbind() int {
	h := p.head()
	p.want("=")
	return p.put(h.at, api.NDatbind, h.name, append(h.vars, p.list("|", p.con)...)...)
}

func (p *parser) con() int {
	at := p.here()
	p.take("op")
	return p.conOf(at, p.name())
}

// conOf takes what is behind the name.
func (p *parser) conOf(at place, name string) int {
	if p.take("of") {
		return p.put(at, api.NCon, name, p.ty())
	}
	return p.put(at, api.NCon, name)
}

func (p *parser) exbind() int {
	at := p.here()
	p.take("op")
	name := p.name()
	if !p.take("=") {
		return p.conOf(at, name)
	}
	p.take("op")
	from := p.here() // behind the `op`, which is the exbind's, not the long name's
	return p.put(at, api.NSame, name, p.putNamed(from, api.EName, p.long()))
}

// local takes both parts: the second one in a scope within the first one's, and what it turns holds behind it, too.
func (p *parser) local(at place) int {
	around := p.scope
	p.scope = around.inner()
	first := p.declarations()
	p.want("in")
	p.scope = p.scope.inner()
	second := p.declarations()
	p.want("end")
	maps.Copy(around.turned, p.scope.turned)
	p.scope = around
	return p.put(at, api.DLocal, "", first, second)
}

func (p *parser) opened() []int {
	l := []int{p.structureName()}
	for p.look(0).Kind == api.TName {
		l = append(l, p.structureName())
	}
	return l
}

// directive takes what is behind infix, infixr or nonfix, and turns the names.
func (p *parser) directive(at place, word string) int {
	f := fixity{infix: word != "nonfix", right: word == "infixr"}
	if f.infix {
		digit := "0"
		if t := p.look(0); t.Kind == api.TInt && len(t.Text) == 1 {
			digit = p.next().Text
		}
		f.level = int(digit[0] - '0')
		word += " " + digit
	}
	l := []int{p.turn(f)}
	for isName(p.look(0)) {
		l = append(l, p.turn(f))
	}
	return p.put(at, api.DFix, word, l...)
}

// turn takes a name, which has this fixity from now on.
func (p *parser) turn(f fixity) int {
	at := p.here()
	name := p.name()
	p.scope.turned[name] = f
	return p.put(at, api.PName, name)
}
