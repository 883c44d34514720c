package derive

import (
	"slices"
	"testing"
	"unsafe"

	"kiln/api"
)

// allForms is a program that has all kinds of nodes.
const allForms = `infix 6 ++ infixr 5 ^^ nonfix o
val (a, [b, 1], {c = "s", d, e : int as f, g : t * u, ...}, C #"x", _ :: () :: [], {}, y as z, A.B.k) = (1.5, A.B.x)
fun f 0 = 1 | f n : int = n * f (n - 1) and x ++ y = y and h (x, y) [z] : A.t * u = z | h _ _ = 2
val rec l : t = fn x => x | _ => raise E x handle A.E => 1 | F y => 2 and g = (fn _ => 3) : u
val x = if a andalso b orelse c then while d do e else case f of g => h | i => (j; k; l)
val x = let val y = 1; fun z w = 2 in y; (z : int : t, #1 y, #label, {a = 1, 2 = [], b = [x, y]}, {}, ()) end
type t = int and 'a u = 'a list and ('a, 'b) v = ('a, 'b * {a : int, 1 : {}}) w -> (t -> u) -> A.t
datatype 'a t = A | B of int * 'a t | D of u and v = E datatype w = datatype A.B.t
exception E and F of int and G = A.H and op + = op -
local open A B.C infix 3 % in val a = 1 % 2 end local in end
structure S = struct val x = 1 structure T = A.B end and T : G = F (A) : H and U :> sig end = G (val x = 1) and W = let open A in B :> G end
signature S = sig val x : int and y : 'a; type t and 'a u type v = t and ('a, 'b) w = 'a eqtype e and 'a g datatype d = A | B of t exception E and F of t structure A : S and B : sig end end where type 'a t = int where type A.B.t = u
functor F (X : S) = struct open X end and G (Y : sig type t end where type t = int) : H = F (Y) and H (Z : S) :> T = Z`

// Rule 4: what is handed in is not changed, and an answer shares no memory with it, with another answer, or within.
func TestMemory(t *testing.T) {
	l, root := parsed(t, allForms)
	met := map[api.NodeKind]bool{}
	for _, n := range l {
		met[n.Kind] = true
	}
	if len(met) != len(kindNames) {
		t.Fatalf("%d kinds of %d", len(met), len(kindNames))
	}
	before := clone(l)
	m, top := derived(t, l, root)
	again, _ := derived(t, l, root)
	if !sameNodes(l, before) {
		t.Error("Derive changed the tree")
	}
	if !sameNodes(m, again) {
		t.Error("Derive answered another tree")
	}
	want := clone(m)
	spoil(l)
	spoil(again)
	if !sameNodes(m, want) || !Bare(m, top) {
		t.Error("Derive's answer shares memory with the tree, or with another answer")
	}
	for i := range m { // what is put behind one list is not seen in another
		_ = append(m[i].Kids, 99, 98, 97, 96)
		_ = append(m[i].Path, "y", "y", "y")
	}
	_ = append(m, api.Node{})
	if !sameNodes(m, want) {
		t.Error("lists of Derive's answer share memory")
	}
	for i := range m {
		for k := range m[i].Kids {
			m[i].Kids[k] = -1 - i
		}
		for k := range m[i].Path {
			m[i].Path[k] = "z"
		}
		for k := range m[:i] {
			if slices.Contains(m[k].Kids, -1-i) {
				t.Fatalf("nodes %d and %d share memory", i, k)
			}
		}
	}
}

// spoil writes over all that nodes have.
func spoil(l []api.Node) {
	for i := range l {
		for k := range l[i].Kids {
			l[i].Kids[k] = 99
		}
		for k := range l[i].Path {
			l[i].Path[k] = "y"
		}
		l[i] = api.Node{}
	}
}

// Rule 4: texts are new memory, too.
func TestTextMemory(t *testing.T) {
	l, root := parsed(t, allForms)
	from := map[*byte]bool{}
	for _, n := range l {
		for _, s := range append(slices.Clone(n.Path), n.Text) {
			if s != "" {
				from[unsafe.StringData(s)] = true
			}
		}
	}
	m, _ := derived(t, l, root)
	for _, n := range m {
		for _, s := range append(slices.Clone(n.Path), n.Text) {
			if s != "" && from[unsafe.StringData(s)] {
				t.Errorf("%s: %q shares the tree's memory", label(n), s)
			}
		}
	}
}

// Rule 4: nil and empty lists are the same.
func TestNilAndEmpty(t *testing.T) {
	l, root := parsed(t, allForms)
	m, top := derived(t, l, root)
	for i := range l {
		if l[i].Kids == nil {
			l[i].Kids = []int{}
		}
		if l[i].Path == nil {
			l[i].Path = []string{}
		}
	}
	again, peak := derived(t, l, root)
	if !sameNodes(m, again) || top != peak {
		t.Error("Derive with empty lists answers another tree")
	}
	sameFault(t, []api.Node{}, 0, 0, 0, api.ErrArg)
}
