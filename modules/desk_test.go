package modules

import (
	"slices"
	"strings"
	"testing"

	"kiln/api"
	"kiln/derive"
	"kiln/elab"
	"kiln/lex"
	"kiln/tree"
)

// tryTree is the bare tree of a text; false, if a layer below refuses it.
func tryTree(text string) ([]api.Node, int, bool) {
	tokens, _, _, e := lex.Scan(text)
	if e != api.OK {
		return nil, 0, false
	}
	l, root, _, _, e := tree.Parse(tokens)
	if e != api.OK {
		return nil, 0, false
	}
	l, root, _, _, e = derive.Derive(l, root)
	return l, root, e == api.OK
}

// bareTree is the bare tree of a program's text.
func bareTree(t testing.TB, text string) ([]api.Node, int) {
	t.Helper()
	l, root, ok := tryTree(text)
	if !ok {
		t.Fatalf("%.200q is no program", text)
	}
	return l, root
}

// byNumber are nodes whose places are their numbers, so that a fault's place tells its node.
func byNumber(l []api.Node) []api.Node {
	l = slices.Clone(l)
	for i := range l {
		l[i].Line, l[i].Column = i+1, i+2
	}
	return l
}

// desk is a checker with the program that it went over last.
type desk struct {
	t    testing.TB
	m    *Mods
	l    []api.Node
	root int
}

func newDesk(t testing.TB) *desk {
	t.Helper()
	m := New()
	if m == nil {
		t.Fatal("New: nil")
	}
	return &desk{t: t, m: m}
}

// play goes over a program, and answers the node of the fault, or -1.
func (d *desk) play(text string) (int, api.Errno) {
	d.t.Helper()
	d.l, d.root = bareTree(d.t, text)
	return d.start()
}

// start goes over the desk's nodes.
func (d *desk) start() (int, api.Errno) {
	d.t.Helper()
	line, column, e := d.m.Program(byNumber(d.l), d.root)
	if e == api.OK && (line != 0 || column != 0) || e != api.OK && line > 0 && column != line+1 || line == 0 && column != 0 {
		d.t.Errorf("Program: the place %d, %d with %v", line, column, e)
	}
	return line - 1, e
}

// run goes over a program without faults.
func (d *desk) run(text string) {
	d.t.Helper()
	if at, e := d.play(text); e != api.OK {
		d.t.Fatalf("%q: %v at %d", text, e, at)
	}
}

// played is a desk at which a program was gone over without faults.
func played(t testing.TB, text string) *desk {
	t.Helper()
	d := newDesk(t)
	d.run(text)
	return d
}

// long splits a long name.
func long(name string) ([]string, string) {
	parts := strings.Split(name, ".")
	return parts[:len(parts)-1], parts[len(parts)-1]
}

func (d *desk) env() api.Env { return d.m.Elab().Env() }

// val is what a long name stands for.
func (d *desk) val(name string) api.Entry {
	d.t.Helper()
	path, last := long(name)
	e, ok := elab.Find(d.env(), path, last)
	if !ok {
		d.t.Fatalf("no %s", name)
	}
	return e
}

// typ is the type of a long name.
func (d *desk) typ(name string) api.Typ {
	d.t.Helper()
	path, last := long(name)
	typ, ok := elab.FindType(d.env(), path, last)
	if !ok {
		d.t.Fatalf("no type %s", name)
	}
	return typ
}

// str is the structure of a long name.
func (d *desk) str(name string) api.Str {
	d.t.Helper()
	s, ok := elab.FindStr(d.env(), strings.Split(name, "."))
	if !ok {
		d.t.Fatalf("no structure %s", name)
	}
	return s
}

// text is a type's text.
func (d *desk) text(t int) string {
	d.t.Helper()
	s, e := d.m.Elab().Book().Text(t)
	if e != api.OK {
		d.t.Fatalf("Text: %v", e)
	}
	return s
}

// is asks for the types of names: pairs of a long name and a type's text.
func (d *desk) is(pairs ...string) {
	d.t.Helper()
	for i := 0; i < len(pairs); i += 2 {
		if got := d.text(d.val(pairs[i]).Scheme.Type); got != pairs[i+1] {
			d.t.Errorf("%s : %s; want %s", pairs[i], got, pairs[i+1])
		}
	}
}

// con is the type constructor of a type's name.
func (d *desk) con(name string) int {
	d.t.Helper()
	t, ok := d.m.Elab().Book().Look(d.typ(name).Scheme.Type)
	if !ok || t.Kind != api.YCon {
		d.t.Fatalf("the type %s is no constructor", name)
	}
	return t.Con
}

// nodes are those of a kind, rising.
func (d *desk) nodes(kind api.NodeKind) []int {
	var l []int
	for i, n := range d.l {
		if n.Kind == kind {
			l = append(l, i)
		}
	}
	return l
}

// node is the only one of a kind, or with a text the only one of both.
func (d *desk) node(kind api.NodeKind, text ...string) int {
	d.t.Helper()
	l := slices.DeleteFunc(d.nodes(kind), func(i int) bool { return len(text) > 0 && d.l[i].Text != text[0] })
	if len(l) != 1 {
		d.t.Fatalf("%d nodes of the kind %d %v", len(l), kind, text)
	}
	return l[0]
}

// note is what is known of a node.
func (d *desk) note(i int) api.Note {
	d.t.Helper()
	notes := d.m.Elab().Notes()
	if len(notes) != len(d.l) {
		d.t.Fatalf("%d notes of %d nodes", len(notes), len(d.l))
	}
	return notes[i]
}

// wrong is a program with the fault that it has: the kind of the node at which it is, and the node's text, if that is asked.
type wrong struct {
	text  string
	errno api.Errno
	kind  api.NodeKind
	at    string
}

func tryWrong(t *testing.T, list []wrong) {
	t.Helper()
	for _, c := range list {
		d := newDesk(t)
		at, e := d.play(c.text)
		switch {
		case e != c.errno:
			t.Errorf("%q: %v; want %v", c.text, e, c.errno)
		case e != api.OK && (at < 0 || d.l[at].Kind != c.kind || c.at != "" && d.l[at].Text != c.at):
			t.Errorf("%q: %v at the node %d, %v; want one of the kind %d %q", c.text, e, at, d.l[max(at, 0)], c.kind, c.at)
		}
	}
}
