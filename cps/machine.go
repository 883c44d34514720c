package cps

import (
	"kiln/api"
	"kiln/values"
	"kiln/vars"
)

// scope is what variables are bound to.
type scope = vars.Scope[values.Value]

// function is a function's value.
type function struct {
	at    int // its JFn
	scope *scope
}

// machine is a run. Nothing waits in it: what comes behind a move is all that there is to do.
type machine struct {
	*values.State
	code    []node
	outcome api.Outcome // once it has a Status, the run is over

	// The move that is done next, and what variables are bound to there.
	at    int
	scope *scope

	atoms []values.Value // those of the move that is done
}

func newMachine(p api.Cps, input []string, fuel int) *machine {
	return &machine{State: values.NewState(input, fuel), code: newCode(p), at: p.Root}
}

// play runs to the end.
func (m *machine) play() api.Outcome {
	for m.outcome.Status == 0 {
		m.move()
	}
	return m.outcome
}

func (m *machine) end(s api.Status) { m.outcome = m.Outcome(s) }

// move does the next move.
func (m *machine) move() {
	if !m.Step() {
		m.end(api.OutOfFuel)
		return
	}
	n := &m.code[m.at]
	l := m.look(n.atoms)
	switch n.kind {
	case api.JTuple:
		m.bind(n, append(values.Tuple{}, l...))
	case api.JCon:
		m.bind(n, &values.Con{Tag: n.m, Of: l[0]})
	case api.JField:
		m.field(n, l[0])
	case api.JPrim:
		m.prim(n, l)
	case api.JFix:
		m.at, m.scope = n.next[len(n.binds)], fixed(n, m.scope)
	case api.JCall:
		m.call(l[0], l[1:])
	case api.JCase:
		m.choose(n, l[0])
	case api.JHalt:
		m.end(api.Done)
	case api.JFail:
		m.outcome = m.Raised(l[0])
	}
}

// look is what atoms stand for.
func (m *machine) look(atoms []operand) []values.Value {
	m.atoms = m.atoms[:0]
	for _, a := range atoms {
		v := a.val
		if v == nil {
			v, _ = m.scope.Find(a.v) // it is bound: the program has no free variable
		}
		m.atoms = append(m.atoms, v)
	}
	return m.atoms
}

// bind goes on with what comes when a move has its value.
func (m *machine) bind(n *node, v values.Value) {
	m.at, m.scope = n.next[0], m.scope.With(n.binds[0], v)
}

func (m *machine) field(n *node, v values.Value) {
	if x, ok := values.Field(v, n.m); ok {
		m.bind(n, x)
	} else {
		m.end(api.Stuck)
	}
}

// prim does a primitive with its arguments.
func (m *machine) prim(n *node, l []values.Value) {
	a := m.Do(n.m, l)
	switch {
	case a.End != 0:
		m.end(a.End)
	case a.Code != 0:
		m.at, m.scope = n.next[1], m.scope.With(n.binds[0], values.Int(a.Code))
	default:
		m.bind(n, a.Val)
	}
}

// fixed is a scope with the functions of a JFix, which have that scope themselves.
func fixed(n *node, s *scope) *scope {
	l := make([]function, len(n.binds))
	for i := len(l) - 1; i >= 0; i-- { // of equal variables the first one counts
		s = s.With(n.binds[i], &l[i])
	}
	s = s.Kept()
	for i := range l {
		l[i] = function{n.next[i], s}
	}
	return s
}

// call goes on with a function's body.
func (m *machine) call(v values.Value, l []values.Value) {
	switch f := v.(type) {
	case *function:
		n := &m.code[f.at]
		if len(n.binds) != len(l) {
			break
		}
		m.at, m.scope = n.next[0], f.scope
		for i, x := range l {
			m.scope = m.scope.With(n.binds[i], x)
		}
		return
	}
	m.end(api.Stuck)
}

// choose goes on with a case's branch.
func (m *machine) choose(n *node, v values.Value) {
	if i := n.keys.Of(v); i < len(n.next) {
		m.at = n.next[i]
	} else {
		m.end(api.Stuck)
	}
}
