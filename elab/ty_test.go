package elab

import (
	"testing"

	"kiln/api"
)

// tyOf begins a type, and answers its node.
func (d *desk) tyOf(text string) int {
	d.t.Helper()
	d.begin("val _ = fn (x : " + text + ") => x")
	for i, n := range d.l {
		if n.Kind == api.PTyped {
			return d.l[i].Kids[1]
		}
	}
	d.t.Fatalf("%q: no type", text)
	return 0
}

// ty elaborates a type, and answers the node of the fault.
func (d *desk) ty(i int, names []string, types []int) (int, int, api.Errno) {
	d.t.Helper()
	t, line, column, e := d.e.Ty(i, names, types)
	if (e == api.OK || line == 0) && (line != 0 || column != 0) || line > 0 && column != line+1 || e != api.OK && t != 0 {
		d.t.Errorf("Ty(%d): %d at %d, %d with %v", i, t, line, column, e)
	}
	return t, line - 1, e
}

// P8.3: types, where names stand for types.
func TestTy(t *testing.T) {
	d := newDesk(t)
	b := d.e.Book()
	x, _ := b.Var(1, false, api.Any)
	ints, _ := b.Apply(api.ConInt)
	reals, _ := b.Apply(api.ConReal)
	names, types := []string{"'a", "'b", "''c"}, []int{x, ints, reals}
	for text, want := range map[string]string{
		"int":                                   "int",
		"'a":                                    "'a",
		"'b":                                    "int",
		"''c":                                   "real",
		"'a list":                               "'a list",
		"'a -> 'b -> 'a":                        "'a -> int -> 'a",
		"('a -> 'b) -> 'a":                      "('a -> int) -> 'a",
		"{b : 'a, a : int, 10 : int, 9 : real}": "{9 : real, 10 : int, a : int, b : 'a}",
		"'a * 'b * unit":                        "'a * int * unit",
		"{}":                                    "unit",
		"(int list * 'b) array ref":             "(int list * int) array ref",
		"bool":                                  "bool",
		"exn":                                   "exn",
	} {
		i := d.tyOf(text)
		got, _, e := d.ty(i, names, types)
		if e != api.OK || d.text(got) != want {
			t.Errorf("%q: %s, %v; want %s", text, d.text(got), e, want)
		}
	}
	d.run("type ('a, 'b) p = 'b * 'a datatype 'a t = A of 'a")
	for text, want := range map[string]string{"('a, 'b) p": "int * 'a", "'a t list": "'a t list", "('a t, 'a) p t": "('a * 'a t) t"} {
		got, _, e := d.ty(d.tyOf(text), names, types)
		if e != api.OK || d.text(got) != want {
			t.Errorf("%q: %s, %v; want %s", text, d.text(got), e, want)
		}
	}
	env := d.e.Env()
	if len(env.Vals) == 0 || d.e.Fresh() != 100 {
		t.Error("types change nothing")
	}
}

// P8.3: a name that stands several times; names without a type.
func TestTyNames(t *testing.T) {
	d := newDesk(t)
	ints, reals := d.typ("int").Scheme.Type, d.typ("real").Scheme.Type
	i := d.tyOf("'a")
	if got, _, e := d.ty(i, []string{"'a", "'a"}, []int{ints, reals}); e != api.OK || d.text(got) != "real" {
		t.Errorf("the last one counts: %d, %v", got, e)
	}
	if _, at, e := d.ty(i, []string{"'b", "'a"}, []int{ints}); e != api.ErrUnbound || at != i {
		t.Errorf("a name without a type: %v at %d", e, at)
	}
	if got, _, e := d.ty(i, []string{"'a"}, []int{ints, reals, -1}); e != api.OK || got != ints {
		t.Errorf("types without names: %d, %v", got, e)
	}
	if _, at, e := d.ty(i, nil, nil); e != api.ErrUnbound || at != i {
		t.Errorf("no names: %v at %d", e, at)
	}
	list := d.tyOf("'a list")
	if _, at, e := d.ty(list, []string{"'a"}, []int{-7}); e != api.ErrType || at != list {
		t.Errorf("a number that is no type: %v at %d", e, at)
	}
	if _, at, e := d.ty(d.tyOf("'a"), []string{"a"}, []int{ints}); e != api.ErrUnbound || at < 0 {
		t.Errorf("another name: %v at %d", e, at)
	}
}

// P8.3: what is wrong in types, at its node, and the first of two.
func TestTyFaults(t *testing.T) {
	for _, f := range []struct {
		text, node string
		kind       api.NodeKind
		errno      api.Errno
	}{
		{"'a list", "'a", api.TVar, api.ErrUnbound},
		{"t", "t", api.TCon, api.ErrUnbound},
		{"int S.t", "t", api.TCon, api.ErrUnbound},
		{"(u, v) t", "t", api.TCon, api.ErrUnbound}, // the name ahead of its arguments
		{"(u, v) list", "u", api.TCon, api.ErrUnbound},
		{"(int, real) list", "list", api.TCon, api.ErrArity},
		{"list", "list", api.TCon, api.ErrArity},
		{"char int", "int", api.TCon, api.ErrArity},
		{"{b : u, a : t}", "u", api.TCon, api.ErrUnbound},
		{"u -> t", "u", api.TCon, api.ErrUnbound},
		{"int -> t", "t", api.TCon, api.ErrUnbound},
		{"'b -> 'a", "'b", api.TVar, api.ErrUnbound},
	} {
		d := newDesk(t)
		i := d.tyOf(f.text)
		if _, at, e := d.ty(i, nil, nil); e != f.errno || at != d.node(f.kind, f.node) {
			t.Errorf("%q: %v at %v; want %v at %s", f.text, e, at, f.errno, f.node)
		}
	}
}

// P8.3: which nodes are types.
func TestTyArguments(t *testing.T) {
	d := newDesk(t)
	if _, at, e := d.ty(0, nil, nil); e != api.ErrArg || at != -1 {
		t.Errorf("ahead of a tree: %v at %d", e, at)
	}
	d.root = d.hand(api.TCon, "int")
	d.start()
	if _, at, e := d.ty(0, nil, nil); e != api.OK || at != -1 {
		t.Errorf("a tree of a type: %v at %d", e, at)
	}
	d.begin("val f = fn (x : {a : 'a, b : int list} -> unit) => x exception E of int datatype t = datatype list")
	for i, n := range d.l {
		_, at, e := d.ty(i, []string{"'a"}, []int{0})
		isType := n.Kind == api.TVar || n.Kind == api.TCon || n.Kind == api.TRec || n.Kind == api.TArrow
		if (e == api.ErrArg) == isType || !isType && at != -1 {
			t.Errorf("a node of kind %d: %v at %d", n.Kind, e, at)
		}
	}
	for _, i := range []int{-1, len(d.l), 1 << 40} {
		if _, at, e := d.ty(i, nil, nil); e != api.ErrArg || at != -1 {
			t.Errorf("Ty(%d): %v at %d", i, e, at)
		}
	}
}

// P8.3: types that are too large; records of hand-made trees.
func TestTyLimits(t *testing.T) {
	for past := range 2 {
		build := map[string]func(d *desk) int{
			"TCon": func(d *desk) int { return d.handLarge(api.MaxSize + past) },
			"TArrow": func(d *desk) int {
				return d.hand(api.TArrow, "", d.handLarge(api.MaxSize-2+past), d.hand(api.TCon, "int"))
			},
			"TRec": func(d *desk) int {
				return d.hand(api.TRec, "", d.hand(api.NField, "a", d.handLarge(api.MaxSize-1+past)))
			},
		}
		for name, make := range build {
			d := newDesk(t)
			d.root = make(d)
			d.start()
			at, errno := -1, api.OK
			if past > 0 {
				at, errno = d.root, api.ErrLong
			}
			if _, got, e := d.ty(d.root, nil, nil); e != errno || got != at {
				t.Errorf("%s, %d past the limit: %v at %d; want %v at %d", name, past, e, got, errno, at)
			}
		}
	}
	for name, labels := range map[string][]string{"twice": {"a", "a"}, "empty": {""}, "too many": manyLabels(api.MaxLabels + 1)} {
		d := newDesk(t)
		var kids []int
		for _, s := range labels {
			kids = append(kids, d.hand(api.NField, s, d.hand(api.TCon, "int")))
		}
		d.root = d.hand(api.TRec, "", kids...)
		d.start()
		if _, at, e := d.ty(d.root, nil, nil); e != api.ErrLabels || at != d.root {
			t.Errorf("%s: %v at %d", name, e, at)
		}
	}
}
