package lower

import (
	"kiln/api"
	"kiln/values"
	"kiln/vars"
)

// scope is what variables are bound to.
type scope = vars.Scope[values.Value]

// spot is a node of a unit, in the scope in which it is begun.
type spot struct {
	*unit
	node  int
	scope *scope
}

func (s spot) kind() api.NodeKind { return s.Nodes[s.node].Kind }
func (s spot) note() api.Note     { return s.Notes[s.node] }

// kid is a node's kid, in the same scope.
func (s spot) kid(i int) spot { return s.to(s.kids(s.node)[i]) }

// to is another node, in the same scope.
func (s spot) to(node int) spot { return spot{s.unit, node, s.scope} }

// in is the same node in another scope.
func (s spot) in(v *scope) spot { return spot{s.unit, s.node, v} }

// frame is what waits for what is handed to it: a value, or the scope behind declarations.
type frame interface{ take(m *machine) }

// raised is what a raise panics with.
type raised struct{ packet values.Value }

// ended is what the end of a run panics with.
type ended struct{ status api.Status }

// machine is a run. What waits stands in lists of its own, so that nothing that a program does is nested too deeply.
type machine struct {
	*values.State
	prims    map[prim]int
	takes    []int       // of each primitive: how many values it takes
	numbers  map[int]int // of the variables that were met
	names    []values.Value
	frames   []frame
	handlers []int       // where those frames stand that handle what is raised
	outcome  api.Outcome // once it has a Status, the run is over

	// What is done next: packet is raised; or the node at next is begun; or, if has is true, what waits is handed val, or scope.
	packet values.Value
	next   spot
	has    bool
	val    values.Value
	scope  *scope
}

func newMachine(l []api.Unit, input []string, fuel int) *machine {
	m := &machine{State: values.NewState(input, fuel), prims: primPlaces(), numbers: map[int]int{}}
	for _, p := range api.Prims() {
		m.takes = append(m.takes, p.Args)
	}
	m.scope = m.scope.With(m.number(nobody), values.Int(0))
	for i, name := range exceptions() {
		cell := m.cell(name)
		m.names = append(m.names, cell)
		m.scope = m.scope.With(m.number(api.XBind+i), cell)
	}
	m.push(unitsFrame{newUnits(l)})
	m.declared(m.scope)
	return m
}

// play runs to the end.
func (m *machine) play() api.Outcome {
	for m.outcome.Status == 0 {
		m.playOn()
	}
	return m.outcome
}

// playOn goes on till the run is over or something is raised.
func (m *machine) playOn() {
	defer func() {
		switch r := recover().(type) {
		case nil:
		case raised:
			m.packet = r.packet
		case ended:
			m.outcome = m.Outcome(r.status)
		default:
			panic(r)
		}
	}()
	for m.outcome.Status == 0 {
		switch {
		case m.packet != nil:
			m.handle()
		case m.has:
			m.pop().take(m)
		default:
			m.begin()
		}
	}
}

// handle goes on where the last handler stands.
func (m *machine) handle() {
	packet := m.packet
	m.packet = nil
	last := len(m.handlers) - 1
	if last < 0 {
		m.outcome = m.Raised(packet)
		return
	}
	at := m.handlers[last]
	f := m.frames[at]
	m.handlers, m.frames = m.handlers[:last], m.frames[:at]
	f.(handleFrame).handle(m, packet) // what stands there is nothing else
}

func (m *machine) push(f frame) { m.frames = append(m.frames, f) }

func (m *machine) pop() frame {
	last := len(m.frames) - 1
	f := m.frames[last]
	m.frames = m.frames[:last]
	return f
}

// count counts a step, ahead of which the run may end.
func (m *machine) count() {
	if !m.Step() {
		panic(ended{api.OutOfFuel})
	}
}

func stuck() { panic(ended{api.Stuck}) }

// raise raises the exception of a number.
func (m *machine) raise(code int) { panic(raised{values.Packet(m.names[code-api.XBind])}) }

// go on with a node.
func (m *machine) goOn(s spot) { m.next, m.has = s, false }

// give hands a value to what waits for it.
func (m *machine) give(v values.Value) { m.val, m.has = v, true }

// declared hands the scope behind declarations to what waits for it.
func (m *machine) declared(s *scope) { m.scope, m.has = s, true }

// number is a variable's number in scopes.
func (m *machine) number(id int) int {
	n, ok := m.numbers[id]
	if !ok {
		n = len(m.numbers)
		m.numbers[id] = n
	}
	return n
}

// bound is a scope in which what a note says is bound.
func (m *machine) bound(s *scope, n api.Note, v values.Value) *scope {
	return s.With(m.number(n.At.Id), v)
}

// find is what is at an Access.
func (m *machine) find(s *scope, at api.Access) values.Value {
	v, ok := s.Find(m.number(at.Id))
	if !ok {
		stuck()
	}
	return along(v, at.Path)
}

// along is what stands in a value where a path leads.
func along(v values.Value, path []int) values.Value {
	for _, n := range path {
		ok := n >= 0
		if ok {
			v, ok = values.Field(v, n)
		}
		if !ok {
			stuck()
		}
	}
	return v
}

// cell is a new cell of an exception's name.
func (m *machine) cell(name string) values.Value {
	return m.Do(m.prims[prim{"exn", -1}], []values.Value{values.Text(cut(name))}).Val
}

// tuple is a tuple of values; of none the int 0.
func tuple(l []values.Value) values.Value {
	if len(l) == 0 {
		return values.Int(0)
	}
	return values.Tuple(l)
}

// unitsFrame waits for the scope behind a unit, for those behind it.
type unitsFrame struct{ left []*unit }

func (f unitsFrame) take(m *machine) {
	if len(f.left) == 0 {
		panic(ended{api.Done})
	}
	u := f.left[0]
	m.push(unitsFrame{f.left[1:]})
	m.decs(spot{u, u.Root, m.scope}, u.kids(u.Root))
}
