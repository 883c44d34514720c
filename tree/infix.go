package tree

import "kiln/api"

// mixture is what infix names stand between: expressions or patterns.
type mixture struct {
	take             func() int             // takes one of them
	fixity           func(api.Token) fixity // of the token behind it
	app, name, tuple api.NodeKind           // of what is made
}

func (p *parser) expressions() mixture {
	return mixture{p.app, p.fixityInExp, api.EApp, api.EName, api.ETuple}
}

func (p *parser) patterns() mixture {
	return mixture{p.apppat, p.fixityInPat, api.PApp, api.PName, api.PTuple}
}

func (p *parser) fixityInPat(t api.Token) fixity {
	if !isName(t) {
		return fixity{}
	}
	return p.scope.find(t.Text)
}

// fixityInExp is as in patterns, but `=` is a name, too.
func (p *parser) fixityInExp(t api.Token) fixity {
	if t.Kind == api.TReserved && t.Text == "=" {
		return p.scope.find(t.Text)
	}
	return p.fixityInPat(t)
}

// between is an infix name whose two sides are not yet put together.
type between struct {
	fixity
	at   place
	name string
}

// infixes takes phrases with infix names between any two, and puts them together.
func (p *parser) infixes(m mixture) int {
	sides := []int{m.take()}
	var names []between
	for {
		f := m.fixity(p.look(0))
		for len(names) > 0 && p.goesFirst(names[len(names)-1].fixity, f) {
			sides = p.together(m, names[len(names)-1], sides)
			names = names[:len(names)-1]
		}
		if !f.infix {
			return sides[0]
		}
		at := p.here()
		names = append(names, between{f, at, p.next().Text})
		sides = append(sides, m.take())
	}
}

// goesFirst tells whether the sides of a name are put together ahead of what is next: those of another infix name, or nothing.
func (p *parser) goesFirst(f, next fixity) bool {
	switch {
	case !next.infix:
		return true
	case f.level != next.level:
		return f.level > next.level
	case f.right != next.right:
		p.giveUp(p.here(), api.ErrFixity)
	}
	return !f.right
}

// together puts the last two sides together, by the name that stands between them.
func (p *parser) together(m mixture, b between, sides []int) []int {
	last := len(sides) - 2
	name := p.put(b.at, m.name, b.name)
	both := p.put(b.at, m.tuple, "", sides[last:]...)
	return append(sides[:last], p.put(b.at, m.app, "", name, both))
}
