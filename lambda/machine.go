package lambda

import (
	"kiln/api"
	"kiln/values"
	"kiln/vars"
)

// scope is what variables are bound to.
type scope = vars.Scope[values.Value]

// function is a function's value.
type function struct {
	at    int // its LFn
	scope *scope
}

// frame is a node that was begun and waits for the value of a part.
type frame struct {
	at    int32
	done  int32 // how many parts have their values
	scope *scope
}

// handler is where an LHandle stands that waits for its first part.
type handler struct {
	frames int // how many frames are below its own one
	parts  int // how many values there were
}

// raised is what a raise panics with.
type raised struct{ packet values.Value }

// machine is a run. What waits stands in lists of its own, so that nothing that a program does is nested too deeply.
type machine struct {
	*values.State
	code     *coder
	frames   []frame
	parts    []values.Value // of the nodes that wait, those values that they have
	handlers []handler
	outcome  api.Outcome // once it has a Status, the run is over

	// What is done next: the node at is begun, or, if has is true, val is handed to what waits for it.
	at    int
	scope *scope
	has   bool
	val   values.Value
}

func newMachine(p api.Lambda, input []string, fuel int) *machine {
	return &machine{State: values.NewState(input, fuel), code: newCode(p), at: p.Root}
}

// play runs to the end.
func (m *machine) play() api.Outcome {
	for m.outcome.Status == 0 {
		m.playOn()
	}
	return m.outcome
}

// playOn goes on till the run is over or something is raised, which goes to where the last handler stands.
func (m *machine) playOn() {
	defer func() {
		if r := recover(); r != nil {
			m.handle(r.(raised).packet) // nothing else panics here
		}
	}()
	for m.outcome.Status == 0 {
		if m.has {
			m.take()
		} else {
			m.begin()
		}
	}
}

// handle goes on with what the last handler does with what was raised.
func (m *machine) handle(packet values.Value) {
	last := len(m.handlers) - 1
	if last < 0 {
		m.outcome = m.Raised(packet)
		return
	}
	h := m.handlers[last]
	f := m.frames[h.frames]
	m.handlers, m.frames, m.parts = m.handlers[:last], m.frames[:h.frames], m.parts[:h.parts]
	n := &m.code.nodes[f.at]
	m.next(n.args[1], f.scope.With(n.n, packet))
}

func (m *machine) end(s api.Status) { m.outcome = m.Outcome(s) }

// next begins a node.
func (m *machine) next(at int, s *scope) { m.at, m.scope, m.has = at, s, false }

// give hands a value to what waits for it.
func (m *machine) give(v values.Value) { m.val, m.has = v, true }

// begin begins a node.
func (m *machine) begin() {
	if !m.Step() {
		m.end(api.OutOfFuel)
		return
	}
	n := &m.code.nodes[m.at]
	switch n.kind {
	case api.LVar:
		v, _ := m.scope.Find(n.n) // it is bound: the program has no free variable
		m.give(v)
	case api.LInt, api.LReal, api.LStr:
		m.give(n.val)
	case api.LFn:
		m.give(&function{m.at, m.scope.Kept()})
	case api.LFix:
		m.next(n.args[len(n.binds)], fixed(n, m.scope))
	default:
		if n.kind == api.LHandle {
			m.handlers = append(m.handlers, handler{len(m.frames), len(m.parts)})
		}
		m.frames = append(m.frames, frame{at: int32(m.at), scope: m.scope})
		m.next(n.args[0], m.scope)
	}
}

// fixed is a scope with the functions of an LFix, which have that scope themselves.
func fixed(n *node, s *scope) *scope {
	l := make([]function, len(n.binds))
	for i := len(l) - 1; i >= 0; i-- { // of equal variables the first one counts
		s = s.With(n.binds[i], &l[i])
	}
	s = s.Kept()
	for i := range l {
		l[i] = function{n.args[i], s}
	}
	return s
}

// take hands a value to the node that waits for it.
func (m *machine) take() {
	last := len(m.frames) - 1
	if last < 0 {
		m.end(api.Done)
		return
	}
	f := m.frames[last]
	n := &m.code.nodes[f.at]
	switch n.kind {
	case api.LLet:
		m.frames = m.frames[:last]
		m.next(n.args[1], f.scope.With(n.n, m.val))
	case api.LCase:
		m.frames = m.frames[:last]
		m.choose(n, f.scope)
	case api.LHandle:
		m.frames = m.frames[:last]
		m.handlers = m.handlers[:len(m.handlers)-1]
	case api.LRaise:
		panic(raised{m.val})
	default:
		m.parts = append(m.parts, m.val)
		if done := int(f.done) + 1; done < len(n.args) {
			m.frames[last].done++
			m.next(n.args[done], f.scope)
			return
		}
		m.frames = m.frames[:last]
		m.finish(n, f.scope)
	}
}

// choose goes on with a case's branch.
func (m *machine) choose(n *node, s *scope) {
	if i := n.keys.Of(m.val) + 1; i < len(n.args) {
		m.next(n.args[i], s)
	} else {
		m.end(api.Stuck)
	}
}

// finish does what a node does with the values of its parts.
func (m *machine) finish(n *node, s *scope) {
	from := len(m.parts) - len(n.args)
	l := m.parts[from:]
	switch n.kind {
	case api.LTuple:
		m.give(append(values.Tuple{}, l...))
	case api.LCon:
		m.give(&values.Con{Tag: n.n, Of: l[0]})
	case api.LField:
		m.field(l[0], n.n)
	case api.LApp:
		m.apply(l[0], l[1])
	case api.LPrim:
		m.prim(n.n, l, s)
	}
	clear(l)
	m.parts = m.parts[:from]
}

func (m *machine) field(v values.Value, n int) {
	if x, ok := values.Field(v, n); ok {
		m.give(x)
	} else {
		m.end(api.Stuck)
	}
}

func (m *machine) apply(v, arg values.Value) {
	f, ok := v.(*function)
	if !ok {
		m.end(api.Stuck)
		return
	}
	n := &m.code.nodes[f.at]
	m.next(n.args[0], f.scope.With(n.n, arg))
}

// prim does a primitive with its arguments.
func (m *machine) prim(n int, l []values.Value, s *scope) {
	a := m.Do(n, l)
	switch {
	case a.End != 0:
		m.end(a.End)
	case a.Code != 0:
		name, _ := s.Find(m.code.numbers[a.Code])
		panic(raised{values.Packet(name)})
	default:
		m.give(a.Val)
	}
}
