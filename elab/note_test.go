package elab

import (
	"reflect"
	"slices"
	"strings"
	"testing"

	"kiln/api"
	"kiln/tree"
)

// P8.2, P8.6: what is noted of names.
func TestNotesOfNames(t *testing.T) {
	d := played(t, "datatype t = B of int | A val f = fn (A, x as y) => x + y | (B z, u) => u exception E of int val g = (B, A, E, Div, f, nil, op ::, fn E n => n | Div => 1)")
	notes := d.e.Notes()
	con := d.val("A").Con
	list := d.val("nil").Con
	at := func(id int) api.Access { return api.Access{Id: id} }
	for name, want := range map[string]api.Note{
		"x": {Is: api.SVar, At: at(100)},
	} {
		if got := notes[d.node(api.PAs, name)]; !reflect.DeepEqual(got, want) {
			t.Errorf("PAs %s: %v; want %v", name, got, want)
		}
	}
	for name, want := range map[string]api.Note{
		"A":   {Is: api.SCon, Con: con, Tag: 0, Count: 2},
		"B":   {Is: api.SCon, Con: con, Tag: 1, Count: 2, Arg: true},
		"y":   {Is: api.SVar, At: at(101)},
		"z":   {Is: api.SVar, At: at(102)},
		"u":   {Is: api.SVar, At: at(103)},
		"f":   {Is: api.SVar, At: at(104)},
		"E":   {Is: api.SExn, At: at(105), Arg: true},
		"Div": {Is: api.SExn, At: at(3)},
		"n":   {Is: api.SVar, At: at(106)},
	} {
		if got := notes[d.node(api.PName, name)]; !reflect.DeepEqual(got, want) {
			t.Errorf("PName %s: %v; want %v", name, got, want)
		}
	}
	for name, want := range map[string]api.Note{
		"x":   {Is: api.SVar, At: at(100)},
		"y":   {Is: api.SVar, At: at(101)},
		"B":   {Is: api.SCon, Con: con, Tag: 1, Count: 2, Arg: true},
		"A":   {Is: api.SCon, Con: con, Tag: 0, Count: 2},
		"E":   {Is: api.SExn, At: at(105), Arg: true},
		"Div": {Is: api.SExn, At: at(3)},
		"f":   {Is: api.SVar, At: at(104)},
		"nil": {Is: api.SCon, Con: list, Tag: 1, Count: 2},
		"::":  {Is: api.SCon, Con: list, Tag: 0, Count: 2, Arg: true},
		"+":   {Is: api.SPrim, Name: "+", Con: api.ConInt},
	} {
		if got := notes[d.node(api.EName, name)]; !reflect.DeepEqual(got, want) {
			t.Errorf("EName %s: %v; want %v", name, got, want)
		}
	}
}

// P8.2: for which type constructor each primitive stands, at the end.
func TestNotesOfPrimitives(t *testing.T) {
	for text, want := range map[string]string{
		"val a = 1 + 2":                                       "+0",
		"val a = fn x => 1.0 * x - 2.0":                       "*1 -1",
		"val a = #\"a\" < #\"b\"":                             "<2",
		"val a = \"a\" >= \"b\"":                              ">=3",
		"val a = fn x => ~ x":                                 "~0",
		"val a = fn x => abs (x / 2.0)":                       "abs1 /-1",
		"val a = 1 div 2 = 3 mod 4":                           "div-1 =-1 mod-1",
		"val a = fn r => (r := 1.0; !r <> 2)":                 "",
		"val a = fn r => (r := 1; !r + 2)":                    ":=-1 !-1 +0",
		"val a = Prim.floor 1.0":                              "floor-1",
		"val a = (op <, op + : real * real -> real)":          "<0 +1",
		"val f = fn x => let val y = x + x in y * 2.0 end":    "+1 *1",
		"val f = (fn g => g 1.0) (op ~)":                      "~1",
		"val f = fn x => fn y => (x > y, y = \"a\")":          ">3 =-1",
		"val f = fn x => let fun g y = y + y in (g x, x) end": "+0",
		"fun f x = x + x and g y = (f y, y - 1.0)":            "+1 -1",
		"val r = ref (op +) val s = !r":                       "+0 !-1",
	} {
		d := newDesk(t)
		if _, e := d.play(text); e != api.OK {
			if want != "" {
				t.Errorf("%q: %v", text, e)
			}
			continue
		}
		var got []string
		for i, n := range d.e.Notes() {
			if n.Is == api.SPrim {
				got = append(got, n.Name+[...]string{"-1", "0", "1", "2", "3"}[n.Con+1])
				if d.l[i].Kind != api.EName || d.l[i].Text != n.Name {
					t.Errorf("%q: the note %v of %v", text, n, d.l[i])
				}
			}
		}
		words := strings.Fields(want)
		slices.Sort(got)
		slices.Sort(words)
		if !slices.Equal(got, words) {
			t.Errorf("%q: %q; want %q", text, got, words)
		}
	}
}

// P8.2: the labels of records' patterns, with and without dots.
func TestNotesOfRecords(t *testing.T) {
	for text, want := range map[string]string{
		"val {b, a} = {a = 1, b = 2}":                  "a b",
		"val {b, ...} = {a = 1, b = 2, 10 = 3, 9 = 4}": "9 10 a b",
		"val () = ()":           "",
		"val {...} = (1, 2, 3)": "1 2 3",
		"val f = fn (x : {c : int, a : int}) => #c x":                       "a c",
		"val f = fn x => (#a x, x = {c = 1, a = 2})":                        "a c",
		"val {a = {b, ...}, ...} = {c = 1, a = {b = 1, d = 2}}":             "b d/a c",
		"val x = let val f = fn r => #a (r : {a : int, z : bool}) in f end": "a z",
	} {
		d := played(t, text)
		var got []string
		for i, n := range d.e.Notes() {
			if d.l[i].Kind == api.PRecord {
				got = append(got, strings.Join(n.Labels, " "))
				if n.Is != 0 || n.Name != "" || n.Con != 0 {
					t.Errorf("%q: %v", text, n)
				}
			} else if n.Labels != nil {
				t.Errorf("%q: labels of %v", text, d.l[i])
			}
		}
		if !slices.Equal(got, strings.Split(want, "/")) {
			t.Errorf("%q: %q; want %q", text, got, want)
		}
	}
	askFaults(t, []faults{
		{"val _ = fn §{a, ...} => a", api.PRecord, api.ErrFields},
		{"val §p = fn {a, ...} => a", api.NBind, api.ErrFields},
		{"val x = let val _ = fn §{a, ...} => a in 1 end", api.PRecord, api.ErrFields},
		{"val x = (fn f => 1) (fn §{a, ...} => a)", api.PRecord, api.ErrFields},
		{"val x = (fn f => 1) (fn {b = {c, d}, a = §{a, ...}} => fn {e, ...} => a)", api.PRecord, api.ErrFields},
	})
	d := newDesk(t)
	at, e := d.play("val x = (fn f => 1) (fn {a = {b, ...}, ...} => b)")
	if inner := d.nodes(api.PRecord, ""); e != api.ErrFields || at != inner[0] {
		t.Errorf("of two records the one of the lower number: %v at %d", e, at)
	}
}

// P8.6: names have notes where they stand in expressions and patterns, and nothing else has, but what declares exceptions, and records' patterns.
func TestNotesAlone(t *testing.T) {
	d := played(t, "datatype 'a t = A of 'a | B type u = int t exception E of u exception F = E local val x = 1 in val rec f = fn (A (y as {a, ...}) : {a : int, b : int} t) => (x : int) | B => 2 end val z = let open Prim in size \"\" end handle E _ => raise F (A 1)")
	noted := []api.NodeKind{api.PName, api.PAs, api.PRecord, api.NCon, api.NSame, api.EName}
	for i, n := range d.e.Notes() {
		kind := d.l[i].Kind
		if has := !reflect.DeepEqual(n, api.Note{}); has && !slices.Contains(noted, kind) {
			t.Errorf("a note of a node of kind %d: %v", kind, n)
		}
	}
	notes := d.e.Notes()
	for _, i := range tree.Below(d.l, d.root) {
		n := d.l[i]
		for _, k := range n.Kids {
			inSame := n.Kind == api.NSame
			if d.l[k].Kind == api.EName && (notes[k].Is == 0) != inSame {
				t.Errorf("the EName %s: %v", d.l[k].Text, notes[k])
			}
			if d.l[k].Kind == api.PName && notes[k].Is == 0 {
				t.Errorf("the PName %s has no note", d.l[k].Text)
			}
		}
		if n.Kind == api.PAs && notes[i].Is != api.SVar {
			t.Errorf("the PAs %s: %v", n.Text, notes[i])
		}
	}
	for _, name := range []string{"A", "B"} {
		if got := notes[d.node(api.NCon, name)]; !reflect.DeepEqual(got, api.Note{}) {
			t.Errorf("the NCon %s: %v", name, got)
		}
	}
}

// P8.2, P8.7: a refused declaration leaves names, notes and numbers as they are.
func TestRefused(t *testing.T) {
	for _, text := range []string{
		"val (x, y) = (1, z)",
		"val x = 1 and y = fn {a, ...} => a",
		"val (x, y) = (1 + 2, fn _ => nil) and 1 = true",
		"val x = let val y = 1 datatype t = A exception E open Prim in size end : int",
		"val rec f = fn x => g x",
		"val rec f : int = fn x => x",
		"type t = int and u = v",
		"datatype t = A of int and u = B of v",
		"datatype t = A of int -> int and u = B of v",
		"datatype t = datatype u",
		"exception E of int and F = G",
		"local val x = 1 datatype t = A open Prim in val y = z end",
		"open Prim Q",
		"structure S = struct end",
		"val _ = fn (x, {a, ...}) => 1 + x",
		"val f = fn x => let datatype d = D in D end",
	} {
		d := played(t, "val a = 1 val b = nil datatype s = A")
		d.begin("val c = a " + text)
		i, k := d.l[d.root].Kids[0], d.l[d.root].Kids[1]
		if _, e := d.dec(i); e != api.OK {
			t.Fatal(e)
		}
		for node := range d.l {
			if d.l[node].Kind == api.EName || d.l[node].Kind == api.PName {
				d.e.Note(node, api.Note{Name: "before", Con: node})
			}
		}
		env, notes := d.e.Env(), d.e.Notes()
		if _, e := d.dec(k); e == api.OK {
			t.Errorf("%q: not refused", text)
		}
		if !reflect.DeepEqual(d.e.Env(), env) {
			t.Errorf("%q: another environment", text)
		}
		if !reflect.DeepEqual(d.e.Notes(), notes) {
			t.Errorf("%q: other notes", text)
		}
		if got := d.e.Fresh(); got != 103 {
			t.Errorf("%q: Fresh: %d", text, got)
		}
		d.run("val d = (a, b, A) val size = 1 val E = fn x => x")
		d.is("d", "!int * 'a list * s")
		d.is("E", "!'a -> 'a")
	}
}
