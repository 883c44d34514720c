package modules

import (
	"slices"
	"strconv"
	"strings"
	"testing"

	"kiln/api"
)

// many is a text for each number.
func many(n int, of func(i string) string) string {
	var b strings.Builder
	for i := range n {
		b.WriteString(of(strconv.Itoa(i)) + " ")
	}
	return b.String()
}

// Programs with many structures, signatures, applications and declarations between them take no time that grows with all that is there.
func TestManyStructures(t *testing.T) {
	if testing.Short() {
		t.Skip()
	}
	for name, text := range map[string]string{
		"structures": many(20000, func(i string) string { return "structure A" + i + " = struct val x = 1 end" }),
		"both": many(10000, func(i string) string {
			return "structure A" + i + " = struct val x = 1 end val y" + i + " = A" + i + ".x"
		}),
		"values":       many(40000, func(i string) string { return "val x" + i + " = 1" }),
		"a signature":  "structure A :> sig " + many(8000, func(i string) string { return "type t" + i + " val x" + i + " : t" + i }) + "end = struct " + many(8000, func(i string) string { return "type t" + i + " = int val x" + i + " = 1" }) + "end",
		"ascriptions":  "signature G = sig type t val x : t end " + many(8000, func(i string) string { return "structure A" + i + " :> G = struct type t = int val x = 1 end" }),
		"applications": "functor F (X : sig type t end) = struct datatype d = D of X.t end " + many(8000, func(i string) string { return "structure A" + i + " = F (type t = int)" }),
	} {
		l, root := bareTree(t, text)
		if line, column, e := New().Program(l, root); e != api.OK {
			t.Errorf("%s: %v at %d, %d", name, e, line, column)
		}
	}
}

// doubled is structures of which each has the one ahead of it twice.
func doubled(n int) string {
	return "structure A0 = struct val x = 1 end " + many(n, func(i string) string {
		k, _ := strconv.Atoi(i)
		return "structure A" + strconv.Itoa(k+1) + " = struct structure X = A" + i + " structure Y = A" + i + " end"
	})
}

// Structures with more names than anybody can hold are refused, so that the call ends.
func TestTooManyNames(t *testing.T) {
	d := played(t, doubled(10))
	d.is("A10.X.Y.X.Y.X.Y.X.Y.X.Y.x", "int")
	tryWrong(t, []wrong{
		{doubled(64), api.ErrMany, api.SName, ""},
		{"signature G0 = sig val x : int end " + many(64, func(i string) string {
			k, _ := strconv.Atoi(i)
			return "signature G" + strconv.Itoa(k+1) + " = sig structure X : G" + i + " structure Y : G" + i + " end"
		}), api.ErrMany, api.GName, ""},
		{"functor F (X : sig structure A : sig end end) = struct structure X = X end" + " functor G0 (X : sig end) = struct val x = 1 end " + many(64, func(i string) string {
			k, _ := strconv.Atoi(i)
			return "functor G" + strconv.Itoa(k+1) + " (X : sig end) = struct structure X = G" + i + " (X) structure Y = G" + i + " (X) end"
		}), api.ErrMany, api.SApp, ""},
		{doubled(16) + many(200, func(string) string { return "open A16" }), api.ErrMany, api.SName, "A16"},
		{doubled(14) + "structure B = struct structure A = A14 end " + many(3000, func(string) string { return "open B A" }), api.ErrMany, api.SName, ""},
		{doubled(14) + "structure B = struct structure A = A14 end open B " + many(300, func(string) string { return "A" }), api.ErrMany, api.SName, "A"},
	})
}

// A tree that is made by hand, whose nodes stand at more places than anybody can go over.
func TestTooManyPlaces(t *testing.T) {
	l := []api.Node{{Kind: api.NDecs}, {Kind: api.SStruct, Kids: []int{0}}}
	for range 64 {
		n := len(l)
		l = append(l,
			api.Node{Kind: api.NStr, Text: "A", Kids: []int{n - 1}},
			api.Node{Kind: api.DStr, Kids: []int{n, n}},
			api.Node{Kind: api.NDecs, Kids: []int{n + 1}},
			api.Node{Kind: api.SStruct, Kids: []int{n + 2}})
	}
	l = append(l, api.Node{Kind: api.NStr, Text: "B", Kids: []int{len(l) - 1}})
	l = append(l, api.Node{Kind: api.DStr, Kids: []int{len(l) - 1}})
	l = append(l, api.Node{Kind: api.NDecs, Kids: []int{len(l) - 1}})
	if _, _, e := New().Program(l, len(l)-1); e != api.ErrMany {
		t.Errorf("structures: %v", e)
	}
	l = []api.Node{{Kind: api.NInt, Text: "1"}, {Kind: api.PWild}, {Kind: api.NBind, Kids: []int{1, 0}}, {Kind: api.DVal, Kids: []int{2}}, {Kind: api.NDecs, Kids: []int{3}}}
	for range 64 {
		n := len(l)
		l = append(l, api.Node{Kind: api.DLocal, Kids: []int{n - 1, n - 1}}, api.Node{Kind: api.NDecs, Kids: []int{n, n}})
	}
	if _, _, e := New().Program(l, len(l)-1); e != api.ErrMany {
		t.Errorf("declarations: %v", e)
	}
}

// Limits of the book: faults at the nodes that ask for more.
func TestBookLimits(t *testing.T) {
	vars := func(n int) string {
		return "(" + strings.TrimSuffix(many(n, func(i string) string { return "'a" + i + "," }), ", ") + ")"
	}
	tryWrong(t, []wrong{
		{"signature G = sig type " + vars(64) + " t end", api.OK, 0, ""},
		{"signature G = sig type " + vars(65) + " t end", api.ErrArg, api.NCon, "t"},
		{"signature G = sig eqtype " + vars(65) + " t end", api.ErrArg, api.NCon, "t"},
		{"signature G = sig datatype " + vars(65) + " t = T end", api.ErrArg, api.NDatbind, "t"},
	})
	// Types of 2046 and 2047 parts, with which an exception's type has two more.
	part := strings.Repeat("int * ", 255) + "int"
	large := func(n int) string {
		return "type a = " + part + " type b = " + strings.Repeat("a * ", 7) + strings.Repeat("int * ", n-1801) + "int "
	}
	tryWrong(t, []wrong{
		{large(2046) + "signature G = sig exception E of b end", api.OK, 0, ""},
		{large(2047) + "signature G = sig exception E of b end", api.ErrLong, api.NCon, "E"},
	})
	// A type that is too large where another one stands twice.
	long := strings.Repeat("int * ", 99) + "int"
	tryWrong(t, []wrong{
		{"type a = " + long + " type b = a * a * a * a * a * a * a * a * a * a * a structure S : sig type t val x : t * t end = struct type t = b val x = raise Bind end", api.ErrLong, api.STrans, ""},
		{"type a = " + long + " type b = a * a * a * a * a * a * a * a * a * a * a structure S : sig type t val x : t * int end = struct type t = b val x = raise Bind end", api.OK, 0, ""},
		{"type a = " + long + " type b = a * a * a * a * a * a * a * a * a * a * a signature G = sig type t val x : t * t end where type t = b", api.ErrLong, api.NWhere, ""},
		{"type a = " + long + " type b = a * a * a * a * a * a * a * a * a * a * a functor F (X : sig type t end) = struct val y : X.t * X.t = raise Bind end structure P = F (type t = b)", api.ErrLong, api.SApp, ""},
	})
}

// heavy is a tree of declarations of one DVal, whose expression has two of the next one in it, and so on.
func heavy(levels int) []api.Node {
	l := []api.Node{{Kind: api.EName, Text: "true"}, {Kind: api.PWild}}
	e := 0
	for range levels {
		n := len(l)
		l = append(l, api.Node{Kind: api.NRule, Kids: []int{1, e}}, api.Node{Kind: api.EFn, Kids: []int{n}}, api.Node{Kind: api.EApp, Kids: []int{n + 1, e}})
		e = n + 2
	}
	n := len(l)
	return append(l, api.Node{Kind: api.NBind, Kids: []int{1, e}}, api.Node{Kind: api.DVal, Kids: []int{n}}, api.Node{Kind: api.NDecs, Kids: []int{n + 1}})
}

// Declarations of the core with nodes at many places: each by itself, and all of them together.
func TestHeavyDeclarations(t *testing.T) {
	for _, levels := range []int{10, 64} {
		want := api.OK
		if levels > 20 {
			want = api.ErrMany
		}
		l := heavy(levels)
		if _, _, e := New().Program(l, len(l)-1); e != want {
			t.Errorf("%d levels: %v; want %v", levels, e, want)
		}
	}
	// Types at many places, of which the book keeps nothing: in declarations, and in a signature.
	first := []api.Node{{Kind: api.TCon, Text: "int"}}
	for range 16 {
		n := len(first)
		first = append(first, api.Node{Kind: api.TCon, Text: "first", Kids: []int{n - 1, n - 1}})
	}
	n := len(first)
	l := append(first[:n:n], api.Node{Kind: api.NInt, Text: "1"}, api.Node{Kind: api.ETyped, Kids: []int{n, n - 1}}, api.Node{Kind: api.PWild}, api.Node{Kind: api.NBind, Kids: []int{n + 2, n + 1}}, api.Node{Kind: api.DVal, Kids: []int{n + 3}}, api.Node{Kind: api.NDecs, Kids: slices.Repeat([]int{n + 4}, 3000)})
	sig := append(first[:n:n], api.Node{Kind: api.NCon, Text: "x", Kids: []int{n - 1}}, api.Node{Kind: api.XVal, Kids: slices.Repeat([]int{n}, 3000)}, api.Node{Kind: api.GSig, Kids: []int{n + 1}}, api.Node{Kind: api.NSig, Text: "G", Kids: []int{n + 2}}, api.Node{Kind: api.DSig, Kids: []int{n + 3}}, api.Node{Kind: api.NDecs, Kids: []int{n + 4}})
	for _, l := range [][]api.Node{l, sig} {
		d := played(t, "type ('a, 'b) first = 'a")
		if _, _, e := d.m.Program(l, len(l)-1); e != api.ErrMany {
			t.Errorf("a heavy type at many places: %v", e)
		}
	}
}

// A node that stands at several places, and what is asked for behind it.
func TestSharedNodes(t *testing.T) {
	d := played(t, "val x = 1 val y = true type t = int and u = bool")
	l, root := bareTree(t, "val z = (y, x, x) structure S = struct val z = {a = y, b = x, c = x} end signature G = sig val z : u * t * t end")
	d.l, d.root = l, root
	for _, n := range l {
		if n.Kind == api.ERecord || n.Kind == api.TRec {
			l[n.Kids[2]].Kids = l[n.Kids[1]].Kids
		}
	}
	if at, e := d.start(); e != api.OK {
		t.Fatalf("%v at %d", e, at)
	}
	d.is("z", "bool * int * int", "S.z", "{a : bool, b : int, c : int}")
}

// enough is room for as many as are asked for.
const enough = -1

// full is a checker after a program, whose book has room for so many types, and type constructors, more.
func full(t *testing.T, types, cons int) *desk {
	d := played(t, rich)
	b := d.m.Elab().Book()
	for made := 0; cons != enough && made < api.MaxTypes-cons-1; {
		con, e := b.Con("full", 0, api.If)
		if e != api.OK {
			t.Fatal(e)
		}
		made = con
	}
	for made := 0; types != enough && made < api.MaxTypes-types-1; {
		v, e := b.Var(0, false, api.Any)
		if e != api.OK {
			t.Fatal(e)
		}
		made = v
	}
	return d
}

// A book that is full: the fault is at the node that needed more, and nothing of its declaration is there.
func TestFullBook(t *testing.T) {
	if testing.Short() {
		t.Skip()
	}
	type less struct {
		text        string
		types, cons int // as many as there is room for
		kind        api.NodeKind
	}
	for _, c := range []less{
		{"signature H = sig type t end", 0, enough, api.NCon},
		{"signature H = sig type t end", enough, 0, api.NCon},
		{"signature H = sig eqtype 'a t end", enough, 0, api.NCon},
		{"signature H = sig type 'a t end", 0, enough, api.TVar},
		{"signature H = sig type 'a t end", 1, enough, api.NCon},
		{"signature H = sig val x : 'a end", 0, enough, api.TVar},
		{"signature H = sig exception E end", 0, enough, api.NCon},
		{"signature H = sig exception E of int end", 1, enough, api.NCon},
		{"signature H = sig datatype d = D end", enough, 0, api.NDatbind},
		{"signature H = G", enough, 0, api.GName},
		{"signature H = G", 0, enough, api.GName},
		{"signature H = G", 2, enough, api.GName},
		{"signature H = G", 5, enough, api.GName},
		{"structure Z :> G = A", enough, 3, api.SOpaque},
		{"structure Z :> G = A", enough, 5, api.SOpaque},
		{"structure Z : G = A", enough, 2, api.GName},
		{"structure Z = F (A)", enough, 0, api.SApp},
		{"structure Z = F (A)", 0, enough, api.SApp},
	} {
		d := full(t, c.types, c.cons)
		before := d.names()
		at, e := d.play(c.text)
		if e != api.ErrMany || at < 0 || d.l[at].Kind != c.kind {
			t.Errorf("%q with room for %d and %d: %v at %v; want a node of the kind %d", c.text, c.types, c.cons, e, d.l[max(at, 0)], c.kind)
		}
		if d.names() != before {
			t.Errorf("%q: %s", c.text, d.names())
		}
	}
	d := full(t, enough, 6)
	d.run("structure Z :> G = A")
	d.is("Z.S.y", "'a s")
}
