package lower

import (
	"slices"
	"strconv"
	"strings"
	"testing"

	"kiln/api"
	"kiln/derive"
	"kiln/lambda"
	"kiln/lex"
	"kiln/modules"
	"kiln/tree"
)

// tryTree is the bare tree of a text; false, if a layer below refuses it.
func tryTree(text string) ([]api.Node, int, bool) {
	tokens, _, _, e := lex.Scan(text)
	if e != api.OK {
		return nil, 0, false
	}
	l, root, _, _, e := tree.Parse(tokens)
	if e != api.OK {
		return nil, 0, false
	}
	l, root, _, _, e = derive.Derive(l, root)
	return l, root, e == api.OK
}

// tryUnit is a tree with what a checker says of it; false, if that refuses it.
func tryUnit(m *modules.Mods, l []api.Node, root int) (api.Unit, api.Errno) {
	if _, _, e := m.Program(l, root); e != api.OK {
		return api.Unit{}, e
	}
	u := api.Unit{Nodes: l, Root: root, Notes: m.Elab().Notes()}
	for i := range l {
		u.Parts = append(u.Parts, m.Parts(i))
	}
	return u, api.OK
}

// unitsOf are the units of some texts, one behind the other by one checker.
func unitsOf(t testing.TB, texts ...string) []api.Unit {
	t.Helper()
	m := modules.New()
	var all []api.Unit
	for _, text := range texts {
		l, root, ok := tryTree(text)
		if !ok {
			t.Fatalf("%.300q is no program", text)
		}
		u, e := tryUnit(m, l, root)
		if e != api.OK {
			t.Fatalf("%.300q: %d", text, e)
		}
		all = append(all, u)
	}
	return all
}

// hand is a tree that is made node by node.
type hand struct{ l []api.Node }

func (h *hand) put(k api.NodeKind, text string, kids ...int) int {
	h.l = append(h.l, api.Node{Kind: k, Text: text, Kids: kids, Line: 1, Column: 1})
	return len(h.l) - 1
}

// times is a node many times.
func times(n, i int) []int { return slices.Repeat([]int{i}, n) }

// unit is the unit of a tree that is made by hand.
func (h *hand) unit(t testing.TB, root int) api.Unit {
	t.Helper()
	u, e := tryUnit(modules.New(), h.l, root)
	if e != api.OK {
		t.Fatalf("no program: %d", e)
	}
	return u
}

// size is how many nodes and parts units have.
func size(l []api.Unit) int {
	n := 0
	for _, u := range l {
		n += len(u.Nodes)
		for _, p := range u.Parts {
			n += partsIn(p)
		}
	}
	return n
}

func partsIn(l []api.Part) int {
	n := len(l)
	for _, p := range l {
		n += partsIn(p.Sub)
	}
	return n
}

// showOutcome is an outcome as a text.
func showOutcome(o api.Outcome) string {
	s := map[api.Status]string{api.Done: "done", api.Uncaught: "uncaught", api.OutOfFuel: "out of fuel", api.Stuck: "stuck"}[o.Status]
	var out []string
	for i, x := range o.Out {
		if i > 200 {
			out = append(out, "and "+strconv.Itoa(len(o.Out)-i))
			break
		}
		if len(x) > 50 {
			x = x[:50] + ".. " + strconv.Itoa(len(x))
		}
		out = append(out, strconv.Quote(x))
	}
	if o.Exn != "" || o.Status == api.Uncaught {
		s += " " + o.Exn
	}
	return strings.TrimSpace(strings.Join(out, " ") + " " + s)
}

// alike tells whether two runs did the same; steps play no part.
func alike(a, b api.Outcome) bool {
	return slices.Equal(a.Out, b.Out) && a.Status == b.Status && a.Exn == b.Exn
}

// begins tells whether a run has printed a beginning of what another one has.
func begins(a, b api.Outcome) bool {
	return len(a.Out) <= len(b.Out) && slices.Equal(a.Out, b.Out[:len(a.Out)])
}

// does fails the test, if units do something else, or their program of the small language does: what they must do is as showOutcome tells it.
func does(t testing.TB, l []api.Unit, want string, input ...string) api.Outcome {
	t.Helper()
	o, e := Run(l, input, api.MaxRun)
	if got := showOutcome(o); e != api.OK || got != want {
		t.Errorf("Run: %s, %d; want %s", got, e, want)
	}
	p := lowers(t, l)
	b, e := lambda.Run(p, input, 1<<26)
	if got := showOutcome(b); e != api.OK || got != want {
		t.Errorf("lowered: %s, %d; want %s", got, e, want)
	}
	held(t, l, p, input, api.MaxRun)
	if p, ok := lowersApart(t, l); ok {
		if b, e := lambda.Run(p, input, 1<<26); e != api.OK || showOutcome(b) != want {
			t.Errorf("lowered apart: %s, %d; want %s", showOutcome(b), e, want)
		}
		held(t, l, p, input, api.MaxRun)
	}
	return o
}

// lowersApart is the program that units would be, if nodes stood at several places; false, if there is no room, which is where there are many.
func lowersApart(t testing.TB, l []api.Unit) (api.Lambda, bool) {
	t.Helper()
	p, e := written(newUnits(l), (*writer).programApart)
	if e == api.ErrMany && size(l) > mostSafe {
		return p, false
	}
	if checked := lambda.Check(p); e != api.OK || checked != api.OK {
		t.Fatalf("apart: %d of %d nodes and parts; Check: %d", e, size(l), checked)
	}
	if len(p.Nodes) > 32*size(l)+200 {
		t.Errorf("apart: %d nodes of %d", len(p.Nodes), size(l))
	}
	return p, true
}

// takes fails the test, if a text does something else, or in another number of steps, or with another fuel otherwise than it must.
func takes(t testing.TB, text, want string, steps int, input ...string) {
	t.Helper()
	l := unitsOf(t, text)
	o := does(t, l, want, input...)
	if o.Steps != steps {
		t.Errorf("%s: %d steps; want %d", text, o.Steps, steps)
	}
	for fuel := range steps + 3 {
		got, e := Run(l, input, fuel)
		ends := alike(got, o) && got.Steps == steps
		out := got.Status == api.OutOfFuel && got.Exn == "" && got.Steps == fuel && begins(got, o)
		if e != api.OK || fuel >= steps && !ends || fuel < steps && !out {
			t.Errorf("%s with %d: %s, %d steps, %d", text, fuel, showOutcome(got), got.Steps, e)
		}
	}
}

// lowers is the program of units, which must be one.
func lowers(t testing.TB, l []api.Unit) api.Lambda {
	t.Helper()
	p, e := Lower(l)
	if e != api.OK {
		t.Fatalf("Lower: %d of %d nodes and parts", e, size(l))
	}
	if e := lambda.Check(p); e != api.OK {
		t.Fatalf("Lower makes what Check refuses: %d", e)
	}
	return p
}

// unfolded is how many nodes a program has where each stands as often as it is used.
func unfolded(p api.Lambda) int {
	sizes := make([]int, len(p.Nodes))
	for i, n := range p.Nodes {
		sizes[i] = 1
		for _, a := range n.Args {
			sizes[i] = min(sizes[i]+sizes[a], 1<<40)
		}
	}
	return sizes[p.Root]
}

// held holds a program against its units with some fuel, both ways, within the chapter's bounds.
func held(t testing.TB, l []api.Unit, p api.Lambda, input []string, n int) {
	t.Helper()
	k := 64 + 64*size(l)
	a, _ := Run(l, input, n)
	bound := k * (a.Steps + 1)
	if a.Status == api.OutOfFuel {
		bound = k * (n + 1)
	}
	b, _ := lambda.Run(p, input, min(bound, 1<<26))
	switch {
	case a.Status == api.Stuck:
	case a.Status != api.OutOfFuel && !alike(a, b) && bound <= 1<<26:
		t.Errorf("with %d of %d steps: %s; lowered: %s", n, a.Steps, showOutcome(a), showOutcome(b))
	case !begins(a, b) && bound <= 1<<26:
		t.Errorf("out of fuel with %d: %s; lowered: %s", n, showOutcome(a), showOutcome(b))
	}
	if bound = k * (b.Steps + 1); b.Status == api.Stuck || b.Status == api.OutOfFuel || bound > api.MaxRun {
		return
	}
	if c, _ := Run(l, input, bound); !alike(b, c) {
		t.Errorf("lowered %d steps: %s; with %d: %s", b.Steps, showOutcome(b), bound, showOutcome(c))
	}
}
