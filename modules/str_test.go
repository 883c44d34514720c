package modules

import (
	"reflect"
	"testing"

	"kiln/api"
	"kiln/elab"
)

// part is what is asked of a Part: its name, what it is of, and where.
type part struct {
	name string
	is   api.Naming
	at   api.Access
	exn  bool
	str  bool
	sub  []part
}

func sameParts(t *testing.T, what string, got []api.Part, want []part) {
	t.Helper()
	if len(got) != len(want) {
		t.Errorf("%s: %v; want %v", what, got, want)
		return
	}
	for i, w := range want {
		p := got[i]
		if p.From.Name != w.name || p.From.Is != w.is || !sameAt(p.From.At, w.at) || p.Exn != w.exn || p.Str != w.str {
			t.Errorf("%s, part %d: %v; want %v", what, i, p, w)
		}
		sameParts(t, what+", "+w.name, p.Sub, w.sub)
	}
}

// SStruct: its Env is what its declarations put there, and its parts are its fields.
func TestStructs(t *testing.T) {
	d := played(t, "structure S = struct val y = 1 val x = y exception E of int datatype d = A | B of int type t = int structure T = struct val z = 1 end structure Q = T exception D = Div open Prim val y = true end")
	v := d.str("S").Env
	values, structures := elab.Slots(v)
	if len(values) != 4 || len(structures) != 2 {
		t.Errorf("S's fields: %v, %v", values, structures)
	}
	d.is("S.y", "bool", "S.x", "int", "S.B", "int -> d", "S.T.z", "int", "S.Q.z", "int", "S.print", "string -> unit", "S.E", "int -> exn")
	// y 100, x 101, E 102, z 103, T 104, Q 105, y 106, S 107.
	l := d.nodes(api.SStruct)
	sameParts(t, "S", d.m.Parts(l[1]), []part{
		{name: "D", is: api.SExn, at: id(api.XDiv), exn: true},
		{name: "E", is: api.SExn, at: id(102), exn: true},
		{name: "x", is: api.SVar, at: id(101)},
		{name: "y", is: api.SVar, at: id(106)},
		{name: "Q", at: id(105), str: true},
		{name: "T", at: id(104), str: true},
	})
	sameParts(t, "T", d.m.Parts(l[0]), []part{{name: "z", is: api.SVar, at: id(103)}})
	e := d.m.Parts(l[1])[1].From
	if !e.Arg || d.text(e.Scheme.Type) != "int -> exn" {
		t.Errorf("the part of E: %v", e)
	}
	for at, want := range map[string]api.Access{"S.D": id(107, 0), "S.E": id(107, 1), "S.x": id(107, 2), "S.y": id(107, 3), "S.Q.z": id(107, 4, 0), "S.T.z": id(107, 5, 0)} {
		if got := d.val(at).At; !sameAt(got, want) {
			t.Errorf("%s is at %v; want %v", at, got, want)
		}
	}
	if len(v.Vals) < 8 || v.Vals[0].Name != "y" || v.Vals[1].Name != "x" || v.Vals[len(v.Vals)-1].Name != "y" || len(v.Types) != 2 || len(v.Strs) != 2 {
		t.Errorf("S: %v", v)
	}
}

// What is open in a structure is a part of it where it is.
func TestPartsOfOpened(t *testing.T) {
	d := played(t, "structure A = struct val x = 1 exception E structure B = struct val y = 1 end end structure S = struct open A end")
	// x 100, E 101, y 102, B 103, A 104.
	l := d.nodes(api.SStruct)
	sameParts(t, "S", d.m.Parts(l[len(l)-1]), []part{
		{name: "E", is: api.SExn, at: id(104, 0), exn: true},
		{name: "x", is: api.SVar, at: id(104, 1)},
		{name: "B", at: id(104, 2), str: true},
	})
}

// A value that is there no more is no part; nor is one whose name is a constructor's now.
func TestPartsOfHidden(t *testing.T) {
	d := played(t, "structure S = struct val A = 1 val b = 2 datatype d = A structure T = struct end structure T = struct val c = 1 end end")
	l := d.nodes(api.SStruct)
	sameParts(t, "S", d.m.Parts(l[len(l)-1]), []part{{name: "b", is: api.SVar, at: id(101)}, {name: "T", at: id(104), str: true}})
	sameParts(t, "an empty one", d.m.Parts(l[0]), nil)
}

// SName: a note, its Env, and no parts.
func TestStructureNames(t *testing.T) {
	d := played(t, "structure A = struct val a = 1 structure B = struct structure C = struct datatype d = D val x = D end end end structure S = A.B.C structure T = S")
	// a 100, x 101, C 102, B 103, A 104, S 105, T 106.
	l := d.nodes(api.SName)
	for i, want := range []api.Access{id(104, 1, 0), id(105)} {
		if got := d.note(l[i]); got.Is != api.SVar || !sameAt(got.At, want) {
			t.Errorf("the note of %v: %v; want %v", d.l[l[i]], got, want)
		}
		if got := d.m.Parts(l[i]); len(got) != 0 {
			t.Errorf("the parts of %v: %v", d.l[l[i]], got)
		}
	}
	if d.con("S.d") != d.con("A.B.C.d") || d.con("T.d") != d.con("S.d") || len(d.typ("T.d").Cons) != 1 {
		t.Error("S's d is another one")
	}
	if got := d.val("T.x").At; !sameAt(got, id(106, 0)) {
		t.Errorf("T.x is at %v", got)
	}
	d.is("T.x", "d", "S.D", "d")
	tryWrong(t, []wrong{
		{"structure S = A", api.ErrUnbound, api.SName, "A"},
		{"structure A = struct end structure S = A.B", api.ErrUnbound, api.SName, "B"},
		{"structure A = struct structure B = struct end end structure S = B", api.ErrUnbound, api.SName, "B"},
		{"structure A = struct structure B = struct end end structure S = A.C.B", api.ErrUnbound, api.SName, "B"},
		{"structure S = S", api.ErrUnbound, api.SName, "S"},
	})
}

// SLet: the structure in the environment of its declarations, which is gone then; parts of the structure alone.
func TestLetStructures(t *testing.T) {
	d := played(t, "val a = true structure S = let val a = 1 structure T = struct val t = a end in struct val b = a val c = T.t end end val d = a")
	d.is("S.b", "int", "S.c", "int", "d", "bool")
	if got := d.names(); got != "a, d, structure S" {
		t.Errorf("there are %s", got)
	}
	if vals := d.str("S").Env.Vals; len(vals) != 2 {
		t.Errorf("S has %v", vals)
	}
	if got := d.m.Parts(d.node(api.SLet)); len(got) != 0 {
		t.Errorf("the parts of the SLet: %v", got)
	}
	if got := d.note(d.node(api.SLet)); got.Is != 0 {
		t.Errorf("the note of the SLet: %v", got)
	}
	l := d.nodes(api.SStruct)
	if got := d.m.Parts(l[len(l)-1]); len(got) != 2 {
		t.Errorf("the parts of what is in it: %v", got)
	}
	// A type that was made there may leave its scope.
	d = played(t, "structure S = let datatype d = D in struct val x = D fun f D = 1 end end val y = S.f S.x")
	d.is("S.x", "d", "y", "int")
}

// inner is a structure with more than the signature asked names.
const (
	inner = "struct val c = 1 val b = 2 exception E exception F of int datatype d = A | B of int structure T = struct val y = 1 val z = 2 structure U = struct val u = 3 end end structure W = struct end end"
	asked = "sig type d val b : int val F : int -> exn exception E val B : int -> d structure T : sig structure U : sig val u : int end val z : int end structure W : sig end end"
)

// Parts of STrans, SOpaque and SApp: out of the structure, by paths from it, at that node alone.
func TestMatchedParts(t *testing.T) {
	want := []part{
		{name: "B", is: api.SCon},
		{name: "E", is: api.SExn, at: id(0, 0), exn: true},
		{name: "F", is: api.SExn, at: id(0, 1)},
		{name: "b", is: api.SVar, at: id(0, 2)},
		{name: "T", at: id(0, 4), str: true, sub: []part{
			{name: "z", is: api.SVar, at: id(0, 4, 1)},
			{name: "U", at: id(0, 4, 2), str: true, sub: []part{{name: "u", is: api.SVar, at: id(0, 4, 2, 0)}}},
		}},
		{name: "W", at: id(0, 5), str: true},
	}
	const first = "val q = 1 structure X = struct val q = 1 end "
	for text, kind := range map[string]api.NodeKind{
		first + "structure S : " + asked + " = " + inner:                                                     api.STrans,
		first + "structure S :> " + asked + " = " + inner:                                                    api.SOpaque,
		first + "functor F (X : " + asked + ") = struct end structure S = F (" + inner + ")":                 api.SApp,
		first + "structure A = struct structure B = " + inner + " end structure S = A.B : " + asked:          api.STrans,
		first + "structure S = let structure B = " + inner + " in B end :> " + asked:                         api.SOpaque,
		first + "structure B = " + inner + " functor F (X : " + asked + ") = struct end structure S = F (B)": api.SApp,
	} {
		d := played(t, text)
		got := d.m.Parts(d.node(kind))
		sameParts(t, text, got, want)
		if c := got[0].From; !c.Arg || c.Count != 2 || c.Tag != 1 {
			t.Errorf("%q: the part of B: %v", text, c)
		}
		if !got[2].From.Arg || d.text(got[3].From.Scheme.Type) != "int" {
			t.Errorf("%q: %v", text, got)
		}
	}
}

// P10.5: parts are as many as Slots has names, and each names what is there.
func TestPartsAreSlots(t *testing.T) {
	d := played(t, "structure S : sig val b : int exception E structure T : sig val z : int end end = "+inner)
	values, structures := elab.Slots(d.str("S").Env)
	parts := d.m.Parts(d.node(api.STrans))
	if len(parts) != len(values)+len(structures) {
		t.Fatalf("%v for %v and %v", parts, values, structures)
	}
	for i, name := range append(values, structures...) {
		if parts[i].From.Name != name || parts[i].Str != (i >= len(values)) {
			t.Errorf("the part %d is %v; want %s", i, parts[i], name)
		}
	}
}

// A primitive, or a constructor, for which a signature has a value.
func TestPartsOfOthers(t *testing.T) {
	d := played(t, "structure S : sig type d val print : string -> unit val A : int -> d end = struct open Prim datatype d = A of int end val y = S.print")
	sameParts(t, "S", d.m.Parts(d.node(api.STrans)), []part{{name: "A", is: api.SCon}, {name: "print", is: api.SPrim}})
	if got := d.note(d.node(api.EName, "print")); got.Is != api.SVar || !sameAt(got.At, id(100, 1)) {
		t.Errorf("S.print: %v", got)
	}
	d.is("S.A", "int -> d", "S.print", "string -> unit")
}

// What a node that makes no structure has, and one of another program: no parts.
func TestNoParts(t *testing.T) {
	d := played(t, "structure S = struct val x = 1 end : sig val x : int end")
	structs, typed := d.node(api.SStruct), d.node(api.STrans)
	for i := -2; i < len(d.l)+2; i++ {
		if got := d.m.Parts(i); len(got) > 0 != (i == structs || i == typed) {
			t.Errorf("the parts of the node %d: %v", i, got)
		}
	}
	d.run("val x = 1")
	for i := range 100 {
		if got := d.m.Parts(i); len(got) != 0 {
			t.Errorf("another program's parts of %d: %v", i, got)
		}
	}
	d.run("structure S = struct val x = 1 end")
	before := d.m.Parts(d.node(api.SStruct))
	if _, _, e := d.m.Program(nil, 0); e != api.ErrTree || !reflect.DeepEqual(d.m.Parts(d.node(api.SStruct)), before) || len(before) != 1 {
		t.Errorf("with %v the parts are gone", e)
	}
}
