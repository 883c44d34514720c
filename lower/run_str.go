package lower

import (
	"kiln/api"
	"kiln/values"
)

// structure begins a structure.
func (m *machine) structure(s spot) {
	switch s.kind() {
	case api.SName:
		m.give(m.find(s.scope, s.note().At))
	case api.SStruct:
		m.push(structFrame{s})
		m.decs(s, s.decs(s.node))
	case api.STrans, api.SOpaque:
		m.push(typedFrame{s})
		m.goOn(s.kid(0))
	case api.SApp:
		m.push(parameterFrame{s, m.find(s.scope, s.note().At)})
		m.goOn(s.kid(0))
	}
}

// structFrame waits for the scope behind the declarations of a struct.
type structFrame struct{ spot }

func (f structFrame) take(m *machine) {
	inner := m.scope
	m.give(m.made(f.Parts[f.node], func(at api.Access) values.Value { return m.find(inner, at) }))
}

// typedFrame waits for the structure of which a signature says what is left.
type typedFrame struct{ spot }

func (f typedFrame) take(m *machine) { m.give(m.madeOf(m.val, f.spot)) }

// parameterFrame waits for the structure to which a functor is applied.
type parameterFrame struct {
	spot
	what values.Value
}

func (f parameterFrame) take(m *machine) {
	parameter := m.madeOf(m.val, f.spot)
	what, ok := f.what.(functor)
	if !ok {
		stuck()
	}
	kids := what.kids(what.node)
	m.goOn(what.to(kids[1]).in(m.bound(what.scope, what.Notes[kids[0]], parameter)))
}

// madeOf makes the parts of a node out of a structure.
func (m *machine) madeOf(structure values.Value, s spot) values.Value {
	return m.made(s.Parts[s.node], func(at api.Access) values.Value { return along(structure, at.Path) })
}

// made makes a structure of parts; at tells what is at an Access.
func (m *machine) made(l []api.Part, at func(api.Access) values.Value) values.Value {
	var fields []values.Value
	for i := range l {
		m.count()
		fields = append(fields, m.part(&l[i], at))
	}
	return tuple(fields)
}

func (m *machine) part(p *api.Part, at func(api.Access) values.Value) values.Value {
	switch {
	case p.Str && len(p.Sub) > 0:
		return m.made(p.Sub, at)
	case p.Str || p.Exn && p.From.Is == api.SExn:
		return at(p.From.At)
	}
	return m.meaning(noteOf(p.From), at)
}
