package elab

import (
	"slices"
	"strings"
	"testing"

	"kiln/api"
	"kiln/derive"
	"kiln/lex"
	"kiln/tree"
)

// bareTree is the bare tree of a program's text.
func bareTree(t testing.TB, text string) ([]api.Node, int) {
	t.Helper()
	tokens, _, _, e := lex.Scan(text)
	if e != api.OK {
		t.Fatalf("%q: Scan: %v", text, e)
	}
	l, root, _, _, e := tree.Parse(tokens)
	if e != api.OK {
		t.Fatalf("%q: Parse: %v", text, e)
	}
	l, root, _, _, e = derive.Derive(l, root)
	if e != api.OK {
		t.Fatalf("%q: Derive: %v", text, e)
	}
	return l, root
}

// desk is an elaborator with the tree that it goes over. Its nodes' places are their numbers, so that a fault's place tells its node.
type desk struct {
	t    testing.TB
	e    *Elab
	l    []api.Node // as the text has them
	root int
}

func newDesk(t testing.TB) *desk {
	t.Helper()
	e := New()
	if e == nil {
		t.Fatal("New: nil")
	}
	return &desk{t: t, e: e}
}

// byNumber are nodes whose places are their numbers.
func byNumber(l []api.Node) []api.Node {
	l = slices.Clone(l)
	for i := range l {
		l[i].Line, l[i].Column = i+1, i+2
	}
	return l
}

// begin begins a program's tree.
func (d *desk) begin(text string) {
	d.t.Helper()
	d.l, d.root = bareTree(d.t, text)
	d.start()
}

// start begins the nodes of the desk.
func (d *desk) start() {
	d.t.Helper()
	if e := d.e.Begin(byNumber(d.l), d.root); e != api.OK {
		d.t.Fatalf("Begin: %v", e)
	}
}

// dec elaborates a declaration, and answers the node of the fault.
func (d *desk) dec(i int) (int, api.Errno) {
	d.t.Helper()
	line, column, e := d.e.Dec(i)
	if e == api.OK && (line != 0 || column != 0) || e != api.OK && line > 0 && column != line+1 || line == 0 && column != 0 {
		d.t.Errorf("Dec(%d): the place %d, %d with %v", i, line, column, e)
	}
	return line - 1, e
}

// play elaborates a program's declarations, up to the first fault.
func (d *desk) play(text string) (int, api.Errno) {
	d.t.Helper()
	d.begin(text)
	for _, i := range d.l[d.root].Kids {
		if at, e := d.dec(i); e != api.OK {
			return at, e
		}
	}
	return -1, api.OK
}

// run elaborates a program without faults.
func (d *desk) run(text string) {
	d.t.Helper()
	if at, e := d.play(text); e != api.OK {
		d.t.Fatalf("%q: %v at %v", text, e, d.l[at])
	}
}

// played is a desk at which a program was elaborated without faults.
func played(t testing.TB, text string) *desk {
	t.Helper()
	d := newDesk(t)
	d.run(text)
	return d
}

// long splits a long name.
func long(name string) ([]string, string) {
	parts := strings.Split(name, ".")
	return parts[:len(parts)-1], parts[len(parts)-1]
}

// val is what a long name stands for.
func (d *desk) val(name string) api.Entry {
	d.t.Helper()
	path, last := long(name)
	e, ok := Find(d.e.Env(), path, last)
	if !ok {
		d.t.Fatalf("%s: unknown", name)
	}
	return e
}

// typ is the type of a long name.
func (d *desk) typ(name string) api.Typ {
	d.t.Helper()
	path, last := long(name)
	t, ok := FindType(d.e.Env(), path, last)
	if !ok {
		d.t.Fatalf("%s: unknown", name)
	}
	return t
}

func (d *desk) text(t int) string {
	d.t.Helper()
	s, e := d.e.Book().Text(t)
	if e != api.OK {
		d.t.Fatalf("Text(%d): %v", t, e)
	}
	return s
}

// shown is a scheme's type, with how many variables are general ahead, if there are any.
func (d *desk) shown(s api.Scheme) string {
	d.t.Helper()
	return strings.Repeat("!", len(s.Vars)) + d.text(s.Type)
}

// is asks for the type of a name.
func (d *desk) is(name, want string) {
	d.t.Helper()
	if got := d.shown(d.val(name).Scheme); got != want {
		d.t.Errorf("%s: %s; want %s", name, got, want)
	}
}

// nodes are the numbers of the nodes of a kind with a text.
func (d *desk) nodes(kind api.NodeKind, text string) []int {
	var l []int
	for i, n := range d.l {
		if n.Kind == kind && n.Text == text {
			l = append(l, i)
		}
	}
	return l
}

// node is the only node of a kind with a text.
func (d *desk) node(kind api.NodeKind, text string) int {
	d.t.Helper()
	l := d.nodes(kind, text)
	if len(l) != 1 {
		d.t.Fatalf("%d nodes of kind %d with %q", len(l), kind, text)
	}
	return l[0]
}

// faults is a program with the place of a fault in it, what is wrong there, and at which kind of node.
type faults struct {
	text  string // with § at the place
	kind  api.NodeKind
	errno api.Errno
}

const here = "§"

// askFaults asks programs for their faults.
func askFaults(t *testing.T, l []faults) {
	t.Helper()
	for _, f := range l {
		askFault(t, newDesk(t), f)
	}
}

func askFault(t *testing.T, d *desk, f faults) {
	t.Helper()
	ahead, behind, ok := strings.Cut(f.text, here)
	if !ok {
		t.Fatalf("%q: no place", f.text)
	}
	at, e := d.play(ahead + behind)
	if e != f.errno {
		t.Errorf("%q: %v; want %v", f.text, e, f.errno)
		return
	}
	line, column := 1+strings.Count(ahead, "\n"), len(ahead)-strings.LastIndex(ahead, "\n")
	if n := d.l[at]; n.Kind != f.kind || n.Line != line || n.Column != column {
		t.Errorf("%q: at a node of kind %d at %d, %d; want kind %d at %d, %d", f.text, n.Kind, n.Line, n.Column, f.kind, line, column)
	}
}
