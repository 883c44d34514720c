package lower

import (
	"slices"

	"kiln/api"
	"kiln/values"
)

// decs goes on with declarations, one behind the other, of which the first one is begun where s says.
func (m *machine) decs(s spot, l []int) {
	if len(l) == 0 {
		m.declared(s.scope)
		return
	}
	if len(l) > 1 {
		m.push(decsFrame{s, l[1:]})
	}
	m.goOn(s.to(l[0]))
}

// decsFrame waits for the scope behind a declaration, for those behind it.
type decsFrame struct {
	spot
	left []int
}

func (f decsFrame) take(m *machine) { m.decs(f.in(m.scope), f.left) }

// dec goes on with a declaration.
func (m *machine) dec(s spot) {
	switch s.kind() {
	case api.DVal:
		m.binds(s, nil)
	case api.DRec:
		m.declared(m.functions(s))
	case api.DExn:
		m.declared(m.exceptions(s))
	case api.DLocal:
		m.push(decsFrame{s, s.kids(s.kids(s.node)[1])})
		m.decs(s, s.decs(s.node))
	case api.DStr:
		m.structures(s, nil)
	case api.DFct:
		m.declared(m.functors(s))
	default:
		m.declared(s.scope)
	}
}

// binds goes on with a DVal that has the values of so many of its expressions.
func (m *machine) binds(s spot, l []values.Value) {
	kids := s.kids(s.node)
	if len(l) < len(kids) {
		m.push(bindsFrame{s, l})
		m.goOn(s.to(s.kids(kids[len(l)])[1]))
		return
	}
	inner := s.scope
	for i, k := range kids {
		var ok bool
		if inner, ok = m.match(s.to(s.kids(k)[0]).in(inner), l[i]); !ok {
			m.raise(api.XBind)
		}
	}
	m.declared(inner)
}

// bindsFrame waits for the value of the next expression of a DVal.
type bindsFrame struct {
	spot
	vals []values.Value
}

func (f bindsFrame) take(m *machine) { m.binds(f.spot, append(f.vals, m.val)) }

// functions is the scope behind a DRec.
func (m *machine) functions(s spot) *scope {
	kids := s.kids(s.node)
	l := make([]closure, len(kids))
	inner := s.scope
	for i, k := range slices.Backward(kids) { // of equal variables the first one counts
		name := s.body(s.kids(k)[0])
		inner = m.bound(inner, s.Notes[name], &l[i])
	}
	inner = inner.Kept()
	for i, k := range kids {
		function := s.body(s.kids(k)[1])
		if s.Nodes[function].Kind != api.EFn {
			stuck()
		}
		l[i] = closure{s.to(function).in(inner)}
	}
	return inner
}

// exceptions is the scope behind a DExn.
func (m *machine) exceptions(s spot) *scope {
	inner := s.scope
	for _, k := range s.kids(s.node) {
		if n := s.Nodes[k]; n.Kind == api.NCon {
			inner = m.bound(inner, s.Notes[k], m.cell(n.Text))
		}
	}
	return inner
}

// structures goes on with a DStr that has so many of its structures.
func (m *machine) structures(s spot, l []values.Value) {
	kids := s.kids(s.node)
	if len(l) < len(kids) {
		m.push(structuresFrame{s, l})
		m.goOn(s.to(s.kids(kids[len(l)])[0]))
		return
	}
	inner := s.scope
	for i, k := range kids {
		inner = m.bound(inner, s.Notes[k], l[i])
	}
	m.declared(inner)
}

// structuresFrame waits for the next structure of a DStr.
type structuresFrame struct {
	spot
	vals []values.Value
}

func (f structuresFrame) take(m *machine) { m.structures(f.spot, append(f.vals, m.val)) }

// functors is the scope behind a DFct.
func (m *machine) functors(s spot) *scope {
	inner := s.scope
	for _, k := range s.kids(s.node) {
		inner = m.bound(inner, s.Notes[k], functor{s.to(k)})
	}
	return inner
}
