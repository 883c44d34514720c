package lower

import (
	"kiln/api"
	"kiln/values"
)

// Values are those of package values, and these functions, each of a type of its own.

// closure is the function of an EFn.
type closure struct{ spot }

// maker makes a constructor's value.
type maker struct{ tag int }

// cellMaker makes a new cell, as the constructor ref does.
type cellMaker struct{}

// packer makes a packet of an exception's name.
type packer struct{ name values.Value }

// primitive does a primitive, a place in api.Prims.
type primitive struct{ place int }

// functor is the functor of an NFct.
type functor struct{ spot }

// apply applies what should be a function.
func (m *machine) apply(what, arg values.Value) {
	switch f := what.(type) {
	case *closure:
		if !m.rules(f.spot, f.kids(f.node), arg) {
			m.raise(api.XMatch)
		}
	case maker:
		m.give(&values.Con{Tag: f.tag, Of: arg})
	case cellMaker:
		m.give(m.Do(m.prims[prim{"ref", -1}], []values.Value{arg}).Val)
	case packer:
		m.give(values.Tuple{f.name, arg})
	case primitive:
		m.do(f.place, arg)
	default:
		stuck()
	}
}

// do does a primitive with its argument, or with the fields of a tuple, if it takes several.
func (m *machine) do(place int, arg values.Value) {
	l := []values.Value{arg}
	if takes := m.takes[place]; takes > 1 {
		fields, ok := arg.(values.Tuple)
		if !ok || len(fields) != takes {
			stuck()
		}
		l = fields
	}
	a := m.Do(place, l)
	switch {
	case a.End != 0:
		panic(ended{a.End})
	case a.Code != 0:
		m.raise(a.Code)
	}
	if place == m.prims[prim{"exn", -1}] { // of its type are packets alone, and something else must not be raised
		a.Val = values.Packet(a.Val)
	}
	m.give(a.Val)
}

// rules goes on with the expression of the first of some rules that a value matches; false, if it matches none.
func (m *machine) rules(s spot, l []int, v values.Value) bool {
	for _, i := range l {
		rule := s.to(i)
		if inner, ok := m.match(rule.kid(0), v); ok {
			m.goOn(rule.kid(1).in(inner))
			return true
		}
	}
	return false
}

// match matches a value with a pattern: the scope with what that binds, and whether it matches.
func (m *machine) match(p spot, v values.Value) (*scope, bool) {
	m.count()
	switch p.kind() {
	case api.PWild:
		return p.scope, true
	case api.PName:
		return m.matchName(p, v)
	case api.PApp:
		arg, ok := m.matchMade(p.kid(0), v)
		if !ok {
			return nil, false
		}
		return m.match(p.kid(1), arg)
	case api.PRecord:
		return m.matchRecord(p, v)
	case api.PTyped:
		return m.match(p.kid(0), v)
	case api.PAs:
		return m.match(p.kid(0).in(m.bound(p.scope, p.note(), v)), v)
	}
	return p.scope, isSame(p.constant(p.node), v)
}

func (m *machine) matchName(p spot, v values.Value) (*scope, bool) {
	switch n := p.note(); n.Is {
	case api.SVar:
		return m.bound(p.scope, n, v), true
	case api.SCon:
		return p.scope, isSame(values.Int(n.Tag), v)
	case api.SExn:
		_, ok := m.carried(p, v)
		return p.scope, ok
	}
	stuck()
	return nil, false
}

// matchMade is the argument with which a value was made, if that was by the constructor or exception of a name.
func (m *machine) matchMade(name spot, v values.Value) (values.Value, bool) {
	switch n := name.note(); {
	case n.Is == api.SCon && n.Con == api.ConRef:
		a := m.Do(m.prims[prim{"!", -1}], []values.Value{v})
		if a.End != 0 {
			panic(ended{a.End})
		}
		return a.Val, true
	case n.Is == api.SCon:
		c, ok := v.(*values.Con)
		if !ok || c.Tag != n.Tag {
			return nil, false
		}
		return c.Of, true
	case n.Is == api.SExn:
		return m.carried(name, v)
	}
	stuck()
	return nil, false
}

// carried is what stands in a packet beside the name of an exception, if that is the one of a node.
func (m *machine) carried(name spot, v values.Value) (values.Value, bool) {
	own, isCell := m.find(name.scope, name.note().At).(*values.Cell)
	packet, isTuple := v.(values.Tuple)
	if !isCell || !isTuple || len(packet) != 2 {
		stuck()
	}
	return packet[1], packet[0] == values.Value(own)
}

func (m *machine) matchRecord(p spot, v values.Value) (*scope, bool) {
	places := p.patternPlaces(p.node)
	inner := p.scope
	for i, k := range p.patternFields(p.node) {
		if places[i] == nowhere {
			stuck()
		}
		var ok bool
		if inner, ok = m.match(p.to(p.held(k)).in(inner), along(v, []int{places[i]})); !ok {
			return nil, false
		}
	}
	return inner, true
}
