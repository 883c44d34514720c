package lower

import (
	"kiln/api"
	"kiln/values"
)

// begin begins the node that is next.
func (m *machine) begin() {
	m.count()
	s := m.next
	switch s.kind() {
	case api.NInt, api.NReal, api.NString, api.NChar:
		m.constant(s)
	case api.EName:
		m.give(m.meaning(s.note(), func(at api.Access) values.Value { return m.find(s.scope, at) }))
	case api.ERecord:
		m.record(s, nil)
	case api.EApp:
		m.push(functionFrame{s})
		m.goOn(s.kid(0))
	case api.ETyped:
		m.goOn(s.kid(0))
	case api.EFn:
		m.give(&closure{s.in(s.scope.Kept())})
	case api.ELet, api.SLet:
		m.push(letFrame{s})
		m.decs(s, s.decs(s.node))
	case api.ERaise:
		m.push(raiseFrame{})
		m.goOn(s.kid(0))
	case api.EHandle:
		m.handlers = append(m.handlers, len(m.frames))
		m.push(handleFrame{s})
		m.goOn(s.kid(0))
	default:
		if s.kind() >= api.SStruct {
			m.structure(s)
		} else {
			m.dec(s)
		}
	}
}

func (m *machine) constant(s spot) {
	v := s.constant(s.node)
	if v == nil {
		stuck()
	}
	m.give(v)
}

// meaning is what a name stands for; at tells what is at an Access.
func (m *machine) meaning(n api.Note, at func(api.Access) values.Value) values.Value {
	switch {
	case n.Is == api.SVar:
		return at(n.At)
	case n.Is == api.SCon && !n.Arg:
		return values.Int(n.Tag)
	case n.Is == api.SCon && n.Con == api.ConRef:
		return cellMaker{}
	case n.Is == api.SCon:
		return maker{n.Tag}
	case n.Is == api.SExn && !n.Arg:
		return values.Packet(at(n.At))
	case n.Is == api.SExn:
		return packer{at(n.At)}
	case n.Is == api.SPrim:
		if place, ok := m.prims[prim{n.Name, n.Con}]; ok {
			return primitive{place}
		}
	}
	stuck()
	return nil
}

// record goes on with a record that has so many of its fields.
func (m *machine) record(s spot, l []values.Value) {
	kids := s.kids(s.node)
	if len(l) < len(kids) {
		m.push(recordFrame{s, l})
		m.goOn(s.to(s.held(kids[len(l)])))
		return
	}
	fields := make([]values.Value, len(l))
	for i, place := range s.recordPlaces(s.node) {
		fields[place] = l[i]
	}
	m.give(tuple(fields))
}

// recordFrame waits for the next field of a record.
type recordFrame struct {
	spot
	fields []values.Value // in the order in which they stand
}

func (f recordFrame) take(m *machine) { m.record(f.spot, append(f.fields, m.val)) }

// functionFrame waits for what is applied.
type functionFrame struct{ spot }

func (f functionFrame) take(m *machine) {
	m.push(argumentFrame{m.val})
	m.goOn(f.kid(1))
}

// argumentFrame waits for that to which something is applied.
type argumentFrame struct{ what values.Value }

func (f argumentFrame) take(m *machine) { m.apply(f.what, m.val) }

// letFrame waits for the scope behind the declarations of a let.
type letFrame struct{ spot }

func (f letFrame) take(m *machine) { m.goOn(f.kid(1).in(m.scope)) }

// raiseFrame waits for what is raised.
type raiseFrame struct{}

func (raiseFrame) take(m *machine) { panic(raised{m.val}) }

// handleFrame waits for a value that goes on to what waits behind it, or for what is raised.
type handleFrame struct{ spot }

func (f handleFrame) take(m *machine) { m.handlers = m.handlers[:len(m.handlers)-1] }

func (f handleFrame) handle(m *machine, packet values.Value) {
	if !m.rules(f.spot, f.kids(f.node)[1:], packet) {
		panic(raised{packet})
	}
}
