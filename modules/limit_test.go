package modules

import (
	"reflect"
	"slices"
	"strconv"
	"strings"
	"testing"

	"kiln/api"
	"kiln/elab"
)

// many is a text for each number.
func many(n int, of func(i string) string) string {
	var b strings.Builder
	for i := range n {
		b.WriteString(of(strconv.Itoa(i)) + " ")
	}
	return b.String()
}

// Programs with many structures, signatures, applications and declarations between them take no time that grows with all that is there.
func TestManyStructures(t *testing.T) {
	if testing.Short() {
		t.Skip()
	}
	for name, text := range map[string]string{
		"structures": many(20000, func(i string) string { return "structure A" + i + " = struct val x = 1 end" }),
		"both": many(10000, func(i string) string {
			return "structure A" + i + " = struct val x = 1 end val y" + i + " = A" + i + ".x"
		}),
		"values":       many(40000, func(i string) string { return "val x" + i + " = 1" }),
		"a signature":  "structure A :> sig " + many(8000, func(i string) string { return "type t" + i + " val x" + i + " : t" + i }) + "end = struct " + many(8000, func(i string) string { return "type t" + i + " = int val x" + i + " = 1" }) + "end",
		"ascriptions":  "signature G = sig type t val x : t end " + many(8000, func(i string) string { return "structure A" + i + " :> G = struct type t = int val x = 1 end" }),
		"applications": "functor F (X : sig type t end) = struct datatype d = D of X.t end " + many(8000, func(i string) string { return "structure A" + i + " = F (type t = int)" }),
	} {
		l, root := bareTree(t, text)
		if line, column, e := New().Program(l, root); e != api.OK {
			t.Errorf("%s: %v at %d, %d", name, e, line, column)
		}
	}
}

// doubled is structures of which each has the one ahead of it twice.
func doubled(n int) string {
	return "structure A0 = struct val x = 1 end " + many(n, func(i string) string {
		k, _ := strconv.Atoi(i)
		return "structure A" + strconv.Itoa(k+1) + " = struct structure X = A" + i + " structure Y = A" + i + " end"
	})
}

// likewise is declarations of which each names the one ahead of it twice.
func likewise(n int, kind, first, form string) string {
	return kind + " " + strings.ReplaceAll(first, "#", "0") + " " + many(n, func(i string) string {
		k, _ := strconv.Atoi(i)
		return kind + " " + strings.ReplaceAll(strings.ReplaceAll(form, "#", strconv.Itoa(k+1)), "@", i)
	})
}

// P10.1: names by structures' names are as many as they are: programs of some hundreds of bytes may have more than could ever be told.
func TestManyNames(t *testing.T) {
	thousand := "structure S = struct " + many(1000, func(i string) string { return "val a" + i + " = 1" }) + "end "
	long := strings.TrimSuffix(strings.Repeat("X.Y.", 32), ".")
	for name, text := range map[string]string{
		"names":             thousand + many(3000, func(i string) string { return "structure T" + i + " = S" }) + "val it = T2999.a999",
		"opened":            thousand + many(2500, func(string) string { return "open S" }) + "val it = a999",
		"opened in turn":    "structure T = struct val b = 1 end " + thousand + many(1000, func(string) string { return "open S T" }) + "val it = a999 + b",
		"opened within":     thousand + many(300, func(i string) string { return "structure T" + i + " = struct open S open S val b = 1 end" }) + "val it = T299.a999 + T0.b",
		"opened and gone":   thousand + many(1000, func(string) string { return "local open S in end val x = let open S in a999 end" }) + "val it = x",
		"in turn":           "structure S0 = S structure S0 = struct val a = 1 end " + many(3000, func(i string) string { return "structure S = struct open S0 end structure S0 = struct open S end" }) + "val it = S0.a",
		"doubled":           doubled(64) + "val it = A64." + long + ".x",
		"doubled, opened":   doubled(64) + many(200, func(string) string { return "open A64" }) + "val it = " + long + ".x",
		"opened in a value": doubled(64) + "val it = let open A64 X Y X Y in X.Y.X.Y." + strings.TrimSuffix(strings.Repeat("X.Y.", 28), ".") + ".x end",
		"functors":          likewise(64, "functor", "G# (X : sig end) = struct val x = 1 end", "G# (X : sig end) = struct structure X = G@ (X) structure Y = G@ (X) end") + "structure A = G64 (struct end) val it = A." + long + ".x",
		"ascriptions":       likewise(64, "signature", "G# = sig val x : int end", "G# = sig structure X : G@ structure Y : G@ end") + doubled(64) + "structure A : G64 = A64 structure B :> G64 = A val it = B." + long + ".x",
	} {
		if name == "in turn" {
			text = "structure S = struct val a = 1 end " + text
		}
		l, root := bareTree(t, text)
		m := New()
		if line, column, e := m.Program(l, root); e != api.OK || line != 0 || column != 0 {
			t.Errorf("%s: %v at %d, %d", name, e, line, column)
			continue
		}
		it, ok := elab.Find(m.Elab().Env(), nil, "it")
		if s, _ := m.Elab().Book().Text(it.Scheme.Type); !ok || s != "int" {
			t.Errorf("%s: it is of type %q", name, s)
		}
	}
}

// Where things are, and what is told, with many names, as with few.
func TestManyNamesTold(t *testing.T) {
	d := played(t, doubled(12)+"val y = A12.X.Y.X.Y.X.Y.X.Y.X.Y.X.Y.x structure B = struct open A12 end open B")
	v := d.env()
	at := len(v.Strs) - 3 // A12, and behind it B, X and Y
	if s := v.Strs[at-1]; s.Name != "A12" || len(v.Strs) < 4 || v.Strs[at].Name != "B" || v.Strs[at+1].Name != "X" || v.Strs[at+2].Name != "Y" {
		t.Fatalf("the structures %v", s.Name)
	}
	names := 0
	var count func(v api.Env)
	count = func(v api.Env) {
		names += len(v.Vals) + len(v.Types) + len(v.Strs)
		for _, s := range v.Strs {
			count(s.Env)
		}
	}
	count(v.Strs[at-1].Env)
	if want := 3<<12 - 2; names != want {
		t.Errorf("A12 has %d names; want %d", names, want)
	}
	for i := range 2 {
		if !reflect.DeepEqual(v.Strs[at+1+i].Env, v.Strs[at].Env.Strs[i].Env) || !reflect.DeepEqual(v.Strs[at].Env.Strs[i].Env, v.Strs[at-1].Env.Strs[i].Env) {
			t.Error("what is open is something else")
		}
		if b := v.Strs[at].At.Id; !sameAt(v.Strs[at+1+i].At, id(b, i)) {
			t.Errorf("%s is at %v; want %d.%d", v.Strs[at+1+i].Name, v.Strs[at+1+i].At, b, i)
		}
	}
	if got := d.note(d.nodes(api.EName)[0]); !sameAt(got.At, id(v.Strs[at-1].At.Id, 0, 1, 0, 1, 0, 1, 0, 1, 0, 1, 0, 1, 0)) {
		t.Errorf("A12.X.Y..x is at %v", got.At)
	}
	if !own(v) {
		t.Error("two lists of an answer share memory")
	}
}

// Rule 1: what is more than can be told is not told, but its name is; and the program behind it goes on.
func TestTooManyToTell(t *testing.T) {
	text := likewise(40, "signature", "G# = sig val x : int end", "G# = sig structure X : G@ structure Y : G@ end") + doubled(40) + "structure B : G40 = A40 val z = 1 structure S = struct val s = 1 end functor F (X : G40) = X"
	d := played(t, text)
	d.is("z", "int", "S.s", "int", "A3.X.Y.X.x", "int")
	if s := d.str("A40"); len(s.Env.Strs) != 0 {
		t.Error("A40 is told")
	}
	if got := d.m.Parts(d.node(api.STrans)); len(got) != 0 {
		t.Error("the parts of B are told")
	}
	sigs, fcts := d.m.Sigs(), d.m.Functors()
	if len(sigs) != 41 || len(sigs[3].Env.Strs) != 2 || len(sigs[3].Env.Strs[1].Env.Strs) != 2 || len(sigs[40].Env.Strs) != 2 || len(sigs[40].Env.Strs[1].Env.Strs) != 0 {
		t.Error("the signatures are told otherwise")
	}
	if len(fcts) != 1 || fcts[0].Name != "F" || len(fcts[0].Body.Strs) != 2 || len(fcts[0].Body.Strs[0].Env.Strs) != 0 {
		t.Error("F is told otherwise")
	}
	d.run("val w = z + S.s + A3.X.Y.X.x")
	d.is("w", "int")
}

// A tree that is made by hand, whose nodes stand at more places than anybody can go over.
func TestTooManyPlaces(t *testing.T) {
	l := []api.Node{{Kind: api.NDecs}, {Kind: api.SStruct, Kids: []int{0}}}
	for range 64 {
		n := len(l)
		l = append(l,
			api.Node{Kind: api.NStr, Text: "A", Kids: []int{n - 1}},
			api.Node{Kind: api.DStr, Kids: []int{n, n}},
			api.Node{Kind: api.NDecs, Kids: []int{n + 1}},
			api.Node{Kind: api.SStruct, Kids: []int{n + 2}})
	}
	l = append(l, api.Node{Kind: api.NStr, Text: "B", Kids: []int{len(l) - 1}})
	l = append(l, api.Node{Kind: api.DStr, Kids: []int{len(l) - 1}})
	l = append(l, api.Node{Kind: api.NDecs, Kids: []int{len(l) - 1}})
	if _, _, e := New().Program(l, len(l)-1); e != api.ErrMany {
		t.Errorf("structures: %v", e)
	}
	l = []api.Node{{Kind: api.NInt, Text: "1"}, {Kind: api.PWild}, {Kind: api.NBind, Kids: []int{1, 0}}, {Kind: api.DVal, Kids: []int{2}}, {Kind: api.NDecs, Kids: []int{3}}}
	for range 64 {
		n := len(l)
		l = append(l, api.Node{Kind: api.DLocal, Kids: []int{n - 1, n - 1}}, api.Node{Kind: api.NDecs, Kids: []int{n, n}})
	}
	if _, _, e := New().Program(l, len(l)-1); e != api.ErrMany {
		t.Errorf("declarations: %v", e)
	}
}

// Limits of the book: faults at the nodes that ask for more.
func TestBookLimits(t *testing.T) {
	vars := func(n int) string {
		return "(" + strings.TrimSuffix(many(n, func(i string) string { return "'a" + i + "," }), ", ") + ")"
	}
	tryWrong(t, []wrong{
		{"signature G = sig type " + vars(64) + " t end", api.OK, 0, ""},
		{"signature G = sig type " + vars(65) + " t end", api.ErrArg, api.NCon, "t"},
		{"signature G = sig eqtype " + vars(65) + " t end", api.ErrArg, api.NCon, "t"},
		{"signature G = sig datatype " + vars(65) + " t = T end", api.ErrArg, api.NDatbind, "t"},
	})
	// Types of 2046 and 2047 parts, with which an exception's type has two more.
	part := strings.Repeat("int * ", 255) + "int"
	large := func(n int) string {
		return "type a = " + part + " type b = " + strings.Repeat("a * ", 7) + strings.Repeat("int * ", n-1801) + "int "
	}
	tryWrong(t, []wrong{
		{large(2046) + "signature G = sig exception E of b end", api.OK, 0, ""},
		{large(2047) + "signature G = sig exception E of b end", api.ErrLong, api.NCon, "E"},
	})
	// A type that is too large where another one stands twice.
	long := strings.Repeat("int * ", 99) + "int"
	tryWrong(t, []wrong{
		{"type a = " + long + " type b = a * a * a * a * a * a * a * a * a * a * a structure S : sig type t val x : t * t end = struct type t = b val x = raise Bind end", api.ErrLong, api.STrans, ""},
		{"type a = " + long + " type b = a * a * a * a * a * a * a * a * a * a * a structure S : sig type t val x : t * int end = struct type t = b val x = raise Bind end", api.OK, 0, ""},
		{"type a = " + long + " type b = a * a * a * a * a * a * a * a * a * a * a signature G = sig type t val x : t * t end where type t = b", api.ErrLong, api.NWhere, ""},
		{"type a = " + long + " type b = a * a * a * a * a * a * a * a * a * a * a functor F (X : sig type t end) = struct val y : X.t * X.t = raise Bind end structure P = F (type t = b)", api.ErrLong, api.SApp, ""},
	})
}

// heavy is a tree of declarations of one DVal, whose expression has two of the next one in it, and so on.
func heavy(levels int) []api.Node {
	l := []api.Node{{Kind: api.EName, Text: "true"}, {Kind: api.PWild}}
	e := 0
	for range levels {
		n := len(l)
		l = append(l, api.Node{Kind: api.NRule, Kids: []int{1, e}}, api.Node{Kind: api.EFn, Kids: []int{n}}, api.Node{Kind: api.EApp, Kids: []int{n + 1, e}})
		e = n + 2
	}
	n := len(l)
	return append(l, api.Node{Kind: api.NBind, Kids: []int{1, e}}, api.Node{Kind: api.DVal, Kids: []int{n}}, api.Node{Kind: api.NDecs, Kids: []int{n + 1}})
}

// Declarations of the core with nodes at many places: each by itself, and all of them together. More places than the document speaks of are refused, if they take as many steps.
func TestHeavyDeclarations(t *testing.T) {
	for _, levels := range []int{10, 64} {
		want := api.OK
		if levels > 20 {
			want = api.ErrMany
		}
		l := heavy(levels)
		if _, _, e := New().Program(l, len(l)-1); e != want {
			t.Errorf("%d levels: %v; want %v", levels, e, want)
		}
	}
	// Types at many places, of which the book keeps nothing: in declarations, and in a signature.
	first := []api.Node{{Kind: api.TCon, Text: "int"}}
	for range 16 {
		n := len(first)
		first = append(first, api.Node{Kind: api.TCon, Text: "first", Kids: []int{n - 1, n - 1}})
	}
	n := len(first)
	l := append(first[:n:n], api.Node{Kind: api.NInt, Text: "1"}, api.Node{Kind: api.ETyped, Kids: []int{n, n - 1}}, api.Node{Kind: api.PWild}, api.Node{Kind: api.NBind, Kids: []int{n + 2, n + 1}}, api.Node{Kind: api.DVal, Kids: []int{n + 3}}, api.Node{Kind: api.NDecs, Kids: slices.Repeat([]int{n + 4}, 3000)})
	sig := append(first[:n:n], api.Node{Kind: api.NCon, Text: "x", Kids: []int{n - 1}}, api.Node{Kind: api.XVal, Kids: slices.Repeat([]int{n}, 3000)}, api.Node{Kind: api.GSig, Kids: []int{n + 1}}, api.Node{Kind: api.NSig, Text: "G", Kids: []int{n + 2}}, api.Node{Kind: api.DSig, Kids: []int{n + 3}}, api.Node{Kind: api.NDecs, Kids: []int{n + 4}})
	for _, l := range [][]api.Node{l, sig} {
		d := played(t, "type ('a, 'b) first = 'a")
		if _, _, e := d.m.Program(l, len(l)-1); e != api.OK {
			t.Errorf("a heavy type at many places: %v", e)
		}
	}
}

// A node that stands at several places, and what is asked for behind it.
func TestSharedNodes(t *testing.T) {
	d := played(t, "val x = 1 val y = true type t = int and u = bool")
	l, root := bareTree(t, "val z = (y, x, x) structure S = struct val z = {a = y, b = x, c = x} end signature G = sig val z : u * t * t end")
	d.l, d.root = l, root
	for _, n := range l {
		if n.Kind == api.ERecord || n.Kind == api.TRec {
			l[n.Kids[2]].Kids = l[n.Kids[1]].Kids
		}
	}
	if at, e := d.start(); e != api.OK {
		t.Fatalf("%v at %d", e, at)
	}
	d.is("z", "bool * int * int", "S.z", "{a : bool, b : int, c : int}")
}

// enough is room for as many as are asked for.
const enough = -1

// full is a checker after a program, whose book has room for so many types, and type constructors, more.
func full(t *testing.T, types, cons int) *desk {
	d := played(t, rich)
	b := d.m.Elab().Book()
	for made := 0; cons != enough && made < api.MaxTypes-cons-1; {
		con, e := b.Con("full", 0, api.If)
		if e != api.OK {
			t.Fatal(e)
		}
		made = con
	}
	for made := 0; types != enough && made < api.MaxTypes-types-1; {
		v, e := b.Var(0, false, api.Any)
		if e != api.OK {
			t.Fatal(e)
		}
		made = v
	}
	return d
}

// A book that is full: the fault is at the node that needed more, and nothing of its declaration is there.
func TestFullBook(t *testing.T) {
	if testing.Short() {
		t.Skip()
	}
	type less struct {
		text        string
		types, cons int // as many as there is room for
		kind        api.NodeKind
	}
	for _, c := range []less{
		{"signature H = sig type t end", 0, enough, api.NCon},
		{"signature H = sig type t end", enough, 0, api.NCon},
		{"signature H = sig eqtype 'a t end", enough, 0, api.NCon},
		{"signature H = sig type 'a t end", 0, enough, api.TVar},
		{"signature H = sig type 'a t end", 1, enough, api.NCon},
		{"signature H = sig val x : 'a end", 0, enough, api.TVar},
		{"signature H = sig exception E end", 0, enough, api.NCon},
		{"signature H = sig exception E of int end", 1, enough, api.NCon},
		{"signature H = sig datatype d = D end", enough, 0, api.NDatbind},
		{"signature H = G", enough, 0, api.GName},
		{"signature H = G", 0, enough, api.GName},
		{"signature H = G", 2, enough, api.GName},
		{"signature H = G", 5, enough, api.GName},
		{"structure Z :> G = A", enough, 3, api.SOpaque},
		{"structure Z :> G = A", enough, 5, api.SOpaque},
		{"structure Z : G = A", enough, 2, api.GName},
		{"structure Z = F (A)", enough, 0, api.SApp},
		{"structure Z = F (A)", 0, enough, api.SApp},
	} {
		d := full(t, c.types, c.cons)
		before := d.names()
		at, e := d.play(c.text)
		if e != api.ErrMany || at < 0 || d.l[at].Kind != c.kind {
			t.Errorf("%q with room for %d and %d: %v at %v; want a node of the kind %d", c.text, c.types, c.cons, e, d.l[max(at, 0)], c.kind)
		}
		if d.names() != before {
			t.Errorf("%q: %s", c.text, d.names())
		}
	}
	d := full(t, enough, 6)
	d.run("structure Z :> G = A")
	d.is("Z.S.y", "'a s")
}
