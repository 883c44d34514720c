package elab

import (
	"reflect"
	"slices"
	"testing"

	"kiln/api"
)

// P8.1: numbers are given out from 100 on, one behind the other, to whoever asks.
func TestFresh(t *testing.T) {
	d := newDesk(t)
	for want := 100; want < 103; want++ {
		if got := d.e.Fresh(); got != want {
			t.Errorf("Fresh: %d; want %d", got, want)
		}
	}
	d.run("val x = fn y => y exception E of int and F val (a as _, b) = (1, 2)")
	for name, want := range map[string]int{"x": 104, "E": 105, "F": 106, "a": 107, "b": 108} {
		if got := d.val(name).At; got.Id != want || got.Path != nil {
			t.Errorf("%s is at %v; want %d", name, got, want)
		}
	}
	if got := d.e.Fresh(); got != 109 {
		t.Errorf("Fresh: %d; want 109", got)
	}
	if got := New().Fresh(); got != 100 {
		t.Errorf("another one's: %d", got)
	}
	d.run("val z = 1")
	if got := d.val("z").At.Id; got != 110 {
		t.Errorf("z is at %d: with another tree numbers go on", got)
	}
}

// P8.1: Set: the environment is another one; what was there is gone.
func TestSet(t *testing.T) {
	d := played(t, "val x = 1 datatype t = A")
	v := d.e.Env()
	v.Vals = append(v.Vals, api.Entry{Name: "y", Is: api.SVar, Scheme: d.val("x").Scheme, At: api.Access{Id: 7, Path: []int{3}}})
	if e := d.e.Set(v); e != api.OK {
		t.Fatal(e)
	}
	if got := d.e.Env(); !reflect.DeepEqual(got, v) {
		t.Errorf("not the environment that was set: %v", got)
	}
	d.run("val z = y")
	d.is("z", "int")
	if got := d.e.Notes()[d.node(api.EName, "y")]; got.Is != api.SVar || got.At.Id != 7 || !slices.Equal(got.At.Path, []int{3}) {
		t.Errorf("y: %v", got)
	}
	if e := d.e.Set(api.Env{}); e != api.OK {
		t.Fatal(e)
	}
	if got := d.e.Env(); len(got.Vals)+len(got.Types)+len(got.Strs) > 0 {
		t.Errorf("left: %v", got)
	}
	if _, e := d.play("val x = true"); e != api.ErrUnbound {
		t.Errorf("in no environment: %v", e)
	}
	if at, e := d.play("val f = fn x => x"); e != api.OK {
		t.Errorf("in no environment: %v at %d", e, at)
	}
	d.is("f", "!'a -> 'a")
}

// P8.1: of several of a name the last one counts.
func TestLastCounts(t *testing.T) {
	d := newDesk(t)
	ints, strings := d.typ("int").Scheme, d.typ("string").Scheme
	inner := func(name string, s api.Scheme) api.Str {
		return api.Str{Name: name, Env: api.Env{Vals: []api.Entry{{Name: "v", Is: api.SVar, Scheme: s}}}}
	}
	d.e.Set(api.Env{
		Vals:  []api.Entry{{Name: "v", Is: api.SVar, Scheme: ints}, {Name: "w", Is: api.SVar, Scheme: ints}, {Name: "v", Is: api.SVar, Scheme: strings}},
		Types: []api.Typ{{Name: "t", Scheme: ints}, {Name: "t", Scheme: strings}},
		Strs:  []api.Str{inner("S", ints), inner("S", strings)},
	})
	d.run("val a = v val b = S.v val c = fn (x : t) => x")
	d.is("a", "string")
	d.is("b", "string")
	d.is("c", "string -> string")
}

// P8.1: Begin: a tree from now on, and no notes; what is no bare tree is refused, and the tree before stays.
func TestBegin(t *testing.T) {
	d := played(t, "val x = 1 val y = x")
	l := d.l
	for name, wrong := range map[string]struct {
		l    []api.Node
		root int
	}{
		"nothing":         {nil, 0},
		"no root":         {l, len(l)},
		"a root below 0":  {l, -1},
		"no tree":         {[]api.Node{{Kind: api.NDecs, Kids: []int{0}}}, 0},
		"no node":         {[]api.Node{{Kind: 7}}, 0},
		"not bare":        {[]api.Node{{Kind: api.ETuple}}, 0},
		"not bare within": {[]api.Node{{Kind: api.EList}, {Kind: api.PWild}, {Kind: api.NBind, Kids: []int{1, 0}}, {Kind: api.DVal, Kids: []int{2}}}, 3},
	} {
		if e := d.e.Begin(wrong.l, wrong.root); e != api.ErrTree {
			t.Errorf("%s: %v", name, e)
		}
	}
	if got := d.e.Notes(); len(got) != len(l) || got[d.node(api.EName, "x")].Is != api.SVar {
		t.Error("a refused tree left nothing of the one before")
	}
	if _, e := d.dec(d.nodes(api.DVal, "")[1]); e != api.OK {
		t.Errorf("a declaration of the tree before: %v", e)
	}
}

// P8.1, P8.2: begun trees may be any bare ones; nodes that are not below the root have notes, too, but are no declarations.
func TestBelow(t *testing.T) {
	d := newDesk(t)
	d.l = []api.Node{
		{Kind: api.NInt, Text: "1"}, {Kind: api.PName, Text: "x"}, {Kind: api.NBind, Kids: []int{1, 0}}, {Kind: api.DVal, Kids: []int{2}},
		{Kind: api.TCon, Text: "int"}, {Kind: api.PName, Text: "y"}, {Kind: api.NBind, Kids: []int{5, 0}}, {Kind: api.DVal, Kids: []int{6}},
		{Kind: 99999, Kids: []int{77}},
	}
	d.root = 7
	d.start()
	if got := d.e.Notes(); len(got) != 9 || !reflect.DeepEqual(got, make([]api.Note, 9)) {
		t.Errorf("notes: %v", got)
	}
	if _, e := d.dec(3); e != api.ErrArg {
		t.Errorf("a declaration that is not below the root: %v", e)
	}
	if _, _, _, e := d.e.Ty(4, nil, nil); e != api.ErrArg {
		t.Errorf("a type that is not below the root: %v", e)
	}
	if _, e := d.dec(7); e != api.OK {
		t.Errorf("the root itself: %v", e)
	}
	d.is("y", "int")
	if e := d.e.Note(8, api.Note{Name: "a"}); e != api.OK || d.e.Notes()[8].Name != "a" {
		t.Errorf("a note of a node that is not below the root: %v", e)
	}
}

// P8.1: Note, Notes.
func TestNote(t *testing.T) {
	d := newDesk(t)
	if got := d.e.Notes(); len(got) != 0 {
		t.Errorf("notes ahead of a tree: %v", got)
	}
	if e := d.e.Note(0, api.Note{}); e != api.ErrArg {
		t.Errorf("a note ahead of a tree: %v", e)
	}
	d.begin("val x = 1")
	n := api.Note{Is: api.SPrim, Name: "n", At: api.Access{Id: 1, Path: []int{2, 3}}, Con: 4, Tag: 5, Count: 6, Arg: true, Labels: []string{"a", "b"}}
	for _, i := range []int{-1, len(d.l), 1 << 40, -1 << 40} {
		if e := d.e.Note(i, n); e != api.ErrArg {
			t.Errorf("Note(%d): %v", i, e)
		}
	}
	for _, i := range []int{0, len(d.l) - 1} {
		if e := d.e.Note(i, n); e != api.OK {
			t.Errorf("Note(%d): %v", i, e)
		}
	}
	want := make([]api.Note, len(d.l))
	want[0], want[len(want)-1] = n, n
	if got := d.e.Notes(); !reflect.DeepEqual(got, want) {
		t.Errorf("notes: %v; want %v", got, want)
	}
	d.start()
	if got := d.e.Notes(); !reflect.DeepEqual(got, make([]api.Note, len(d.l))) {
		t.Errorf("a new tree has notes: %v", got)
	}
}

// P8.1: Book: the elaborator's own, the same whenever it is asked.
func TestBook(t *testing.T) {
	d := newDesk(t)
	b := d.e.Book()
	if b == nil || b != d.e.Book() || b == New().Book() {
		t.Error("not a book of its own")
	}
	d.run("datatype t = A")
	if name, arity, equal, ok := b.Named(d.val("A").Con); name != "t" || arity != 0 || equal != api.If || !ok || b != d.e.Book() {
		t.Errorf("t in its book: %q, %d, %d, %v", name, arity, equal, ok)
	}
}
