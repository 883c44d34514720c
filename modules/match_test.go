package modules

import (
	"math/rand"
	"slices"
	"strings"
	"testing"

	"kiln/api"
	"kiln/elab"
)

// holds are structures with signatures, and what is wrong with them, if something is.
type holds struct {
	str, sig string
	errno    api.Errno
}

// tryHolds asks both ways of ascription, and a functor's argument.
func tryHolds(t *testing.T, first string, list []holds) {
	t.Helper()
	for _, c := range list {
		sig := "sig " + c.sig + " end"
		tryWrong(t, []wrong{
			{first + " structure S = struct " + c.str + " end : " + sig, c.errno, api.STrans, ""},
			{first + " structure S = struct " + c.str + " end :> " + sig, c.errno, api.SOpaque, ""},
			{first + " functor F (X : " + sig + ") = struct end structure S = F (" + c.str + ")", c.errno, api.SApp, ""},
			{first + " signature G = " + sig + " structure T = struct " + c.str + " end structure S = T : G", c.errno, api.STrans, ""},
			{first + " structure S = struct structure T = struct " + c.str + " end end : sig structure T : " + sig + " end", c.errno, api.STrans, ""},
		})
	}
}

// deep is a structure, or a signature of one, A.B.C.
func deep(inner, is, begin string) string {
	return "structure A" + is + begin + " structure B" + is + begin + " structure C" + is + inner + " end end"
}

// Point 1: of each flexible type the structure's type at the same place.
func TestFlexibleTypes(t *testing.T) {
	tryHolds(t, "", []holds{
		{"", "type t", api.ErrMissing},
		{"type u = int", "type t", api.ErrMissing},
		{"val t = 1", "type t", api.ErrMissing},
		{"type t = int", "type t", api.OK},
		{"type t = int -> int", "type t", api.OK},
		{"datatype t = T", "type t", api.OK},
		{"type 'a t = 'a", "type t", api.ErrMatch},
		{"type t = int", "type 'a t", api.ErrMatch},
		{"type ('a, 'b) t = int", "type 'a t", api.ErrMatch},
		{"type ('a, 'b) t = 'b", "type ('b, 'a) t", api.OK},
		{"type t = int", "eqtype t", api.OK},
		{"type t = real", "eqtype t", api.ErrMatch},
		{"type t = exn", "eqtype t", api.ErrMatch},
		{"type t = int -> int", "eqtype t", api.ErrMatch},
		{"type t = {a : int, b : string list}", "eqtype t", api.OK},
		{"type t = {a : int, b : int -> int}", "eqtype t", api.ErrMatch},
		{"type t = (int -> int) * int * int", "eqtype t", api.ErrMatch},
		{"type t = int * int * (int -> int)", "eqtype t", api.ErrMatch},
		{"type t = (int -> int) list", "eqtype t", api.ErrMatch},
		{"type t = (int -> int) ref * (real array)", "eqtype t", api.OK},
		{"type 'a t = 'a list", "eqtype 'a t", api.OK},
		{"type 'a t = 'a -> 'a", "eqtype 'a t", api.ErrMatch},
		{"type ''a t = ''a * int", "eqtype 'a t", api.OK},
		{"datatype 'a t = T of 'a", "eqtype 'a t", api.OK},
		{"datatype 'a t = T of 'a -> int", "eqtype 'a t", api.ErrMatch},
		{"datatype 'a t = T of 'a -> int", "type 'a t", api.OK},
		{"type t = int type t = bool", "type t val x : t", api.ErrMissing},
		{"type t = int type t = bool val x = true", "type t val x : t", api.OK},
		{"type t = int type t = bool val x = 1", "type t val x : t", api.ErrMatch},
		{"structure U = struct type t = int end", "structure U : sig type t end", api.OK},
		{"structure U = struct type u = int end type t = int", "structure U : sig type t end", api.ErrMissing},
		{"type t = int", "structure U : sig type t end", api.ErrMissing},
		{"structure V = struct type t = int end", "structure U : sig type t end", api.ErrMissing},
		{"structure U = struct type t = int end structure U = struct end", "structure U : sig type t end", api.ErrMissing},
		{"structure U = struct structure V = struct type t = int end end", "structure U : sig structure V : sig eqtype t end end", api.OK},
		{"structure U = struct structure V = struct type t = real end end", "structure U : sig structure V : sig eqtype t end end", api.ErrMatch},
		{"type a = int type u = bool type t = string val x = (true, \"\", \"\")", "type a type u type t val x : u * t * t", api.OK},
		{"type a = int type u = bool type t = string val x = (\"\", true, true)", "type a type u type t val x : t * u * u", api.OK},
		{"type a = int type u = bool type t = string val x = (\"\", true, true)", "type a type u type t val x : u * t * t", api.ErrMatch},
		{deep("struct structure D = struct type t = int end structure E = struct type t = bool end end", " = ", "struct") + " val x = 1 val y = true", deep("sig structure D : sig type t end structure E : sig type t end end", " : ", "sig") + " val x : A.B.C.D.t val y : A.B.C.E.t", api.OK},
		{deep("struct structure D = struct type t = int end structure E = struct type t = bool end end", " = ", "struct") + " val x = true val y = true", deep("sig structure D : sig type t end structure E : sig type t end end", " : ", "sig") + " val x : A.B.C.D.t val y : A.B.C.E.t", api.ErrMatch},
		{deep("struct structure D = struct type t = int end structure E = struct type t = bool end end", " = ", "struct") + " val x = 1 val y = 1", deep("sig structure D : sig type t end structure E : sig type t end end", " : ", "sig") + " val x : A.B.C.D.t val y : A.B.C.E.t", api.ErrMatch},
	})
}

// Point 1: the place of a flexible type is the first one, types ahead of structures.
func TestFirstPlace(t *testing.T) {
	tryHolds(t, "", []holds{
		{"type t = int structure U = struct type u = int end", "type t structure U : sig type u = t end", api.OK},
		{"type t = int structure U = struct type u = bool end", "type t structure U : sig type u = t end", api.ErrMatch},
		{"structure U = struct type u = int end type t = int", "structure U : sig type u end type t = U.u", api.OK},
		{"structure U = struct type u = int end type t = bool", "structure U : sig type u end type t = U.u", api.ErrMatch},
		{"type 'a u = 'a list type 'a t = 'a list", "type 'a t type 'a u = 'a t", api.OK},
		{"type 'a u = 'a list type 'a t = 'a ref", "type 'a t type 'a u = 'a t", api.ErrMatch},
		{"type ('a, 'b) t = 'a -> 'b type ('a, 'b) u = 'b -> 'a", "type ('a, 'b) t type ('a, 'b) u = ('b, 'a) t", api.OK},
		{"type ('a, 'b) t = 'a -> 'b type ('a, 'b) u = 'a -> 'b", "type ('a, 'b) t type ('a, 'b) u = ('b, 'a) t", api.ErrMatch},
	})
	// The type t is asked first, though U stands ahead of it: it is missing there, but U's u is of other arguments.
	tryHolds(t, "", []holds{
		{"structure U = struct type 'a u = int end", "structure U : sig type u end type t = U.u", api.ErrMissing},
		{"structure U = struct type 'a u = int end type 'a t = int", "structure U : sig type u end type t = U.u", api.ErrMatch},
	})
}

// Point 2: types that are written, datatypes.
func TestTypesAreTheSame(t *testing.T) {
	tryHolds(t, "datatype o = O and 'a p = P of 'a", []holds{
		{"", "type t = int", api.ErrMissing},
		{"type t = int", "type t = int", api.OK},
		{"type t = bool", "type t = int", api.ErrMatch},
		{"type t = o", "type t = o", api.OK},
		{"datatype o = O type t = o", "type t = o", api.ErrMatch},
		{"type 'a t = 'a list", "type 'b t = 'b list", api.OK},
		{"type 'a t = 'a list", "type t = int list", api.ErrMatch},
		{"type 'a t = int list", "type 'a t = 'a list", api.ErrMatch},
		{"type ('a, 'b) t = 'a * 'b", "type ('a, 'b) t = 'b * 'a", api.ErrMatch},
		{"type ('a, 'b) t = 'a * 'b", "type ('b, 'a) t = 'b * 'a", api.OK},
		{"type ('a, 'b) t = 'a * 'a", "type ('a, 'b) t = 'a * 'b", api.ErrMatch},
		{"type t = {a : int, b : bool}", "type t = {b : bool, a : int}", api.OK},
		{"type t = {a : int, b : bool}", "type t = {a : int, c : bool}", api.ErrMatch},
		{"type t = {a : int, b : bool}", "type t = {a : int}", api.ErrMatch},
		{"type t = int -> bool", "type t = int -> bool", api.OK},
		{"type t = int -> bool", "type t = bool -> bool", api.ErrMatch},
		{"type t = int * bool", "type t = int -> bool", api.ErrMatch},
		{"type t = bool * int * int", "type t = string * int * int", api.ErrMatch},
		{"type t = int * int * bool", "type t = int * int * string", api.ErrMatch},
		{"type t = int type t = bool", "type t = int", api.ErrMatch},
		{"type t = int type t = bool", "type t = bool", api.OK},
		{"type ''a t = ''a list", "type 'a t = 'a list", api.OK},
		{"datatype d = A | B of int", "datatype d = A | B of int", api.OK},
		{"datatype d = A | B of int", "datatype d = B of int | A", api.OK},
		{"datatype d = A | B of bool", "datatype d = A | B of int", api.ErrMatch},
		{"datatype d = A | B of int | C", "datatype d = A | B of int", api.ErrMatch},
		{"datatype d = A", "datatype d = A | B of int", api.ErrMatch},
		{"datatype d = A | C of int", "datatype d = A | B of int", api.ErrMatch},
		{"datatype d = A | B", "datatype d = A | B of int", api.ErrMatch},
		{"datatype d = A | B of int", "type d val A : d val B : int -> d", api.OK},
		{"type d = int", "datatype d = A", api.ErrMatch},
		{"datatype e = A type d = e", "datatype d = A", api.ErrMatch},
		{"datatype e = A datatype d = datatype e", "datatype d = A", api.OK},
		{"datatype 'a d = A of 'a * 'a d | N", "datatype 'b d = N | A of 'b * 'b d", api.OK},
		{"datatype ('a, 'b) d = A of 'a * 'b", "datatype ('b, 'a) d = A of 'a * 'b", api.ErrMatch},
		{"datatype ''a d = A of ''a", "datatype 'a d = A of 'a", api.ErrMatch},
		{"datatype 'a d = A of 'a", "datatype d = A of int", api.ErrMatch},
		{"datatype d = D of d and e = E of d", "datatype d = D of d datatype e = E of d", api.OK},
		{"datatype d = D of d datatype e = E of d", "datatype e = E of d and d = D of d", api.OK},
		{"datatype d = D of int -> int", "datatype d = D of int -> int", api.OK},
		{"datatype d = D of int -> int", "datatype d = D of int", api.ErrMatch},
		{"datatype d = D of int", "datatype d = D of int -> int", api.ErrMatch},
		{"type t = int datatype d = D of t", "type t datatype d = D of t", api.OK},
		{"type t = int datatype d = D of bool", "type t datatype d = D of t", api.ErrMatch},
		{"type t = int datatype d = D of int", "type t datatype d = D of t", api.OK},
	})
}

// Point 3: values, exceptions, constructors.
func TestValuesAreThere(t *testing.T) {
	tryHolds(t, "datatype o = O | K of int exception X of int", []holds{
		{"", "val x : int", api.ErrMissing},
		{"type x = int structure x = struct end", "val x : int", api.ErrMissing},
		{"val x = 1", "val x : int", api.OK},
		{"val x = 1", "val x : bool", api.ErrMatch},
		{"val x = 1 val x = true", "val x : bool", api.OK},
		{"val x = 1 val x = true", "val x : int", api.ErrMatch},
		{"fun f x = x", "val f : 'a -> 'a", api.OK},
		{"fun f x = x", "val f : int -> int", api.OK},
		{"fun f x = x", "val f : 'a -> 'b", api.ErrMatch},
		{"fun f x = x", "val f : 'a list -> 'a list", api.OK},
		{"fun f (x : int) = x", "val f : 'a -> 'a", api.ErrMatch},
		{"fun f x = x = x", "val f : ''a -> bool", api.OK},
		{"fun f x = x = x", "val f : 'a -> bool", api.ErrMatch},
		{"fun f x = x = x", "val f : int -> bool", api.OK},
		{"fun f x = x = x", "val f : real -> bool", api.ErrMatch},
		{"fun f x = x", "val f : ''a -> ''a", api.OK},
		{"exception E", "exception E", api.OK},
		{"exception E of int", "exception E", api.ErrMatch},
		{"exception E", "exception E of int", api.ErrMatch},
		{"exception E of int", "exception E of int", api.OK},
		{"exception E of bool", "exception E of int", api.ErrMatch},
		{"exception E = X", "exception E of int", api.OK},
		{"val E = X", "exception E of int", api.ErrMissing},
		{"datatype e = E", "exception E", api.ErrMissing},
		{"", "exception E", api.ErrMissing},
		{"exception E", "val E : exn", api.OK},
		{"exception E of int", "val E : int -> exn", api.OK},
		{"exception E of int", "val E : exn", api.ErrMatch},
		{"exception E exception E of int", "exception E", api.ErrMatch},
		{"open Prim", "val print : string -> unit val ord : char -> int", api.OK},
		{"open Prim", "val print : int -> unit", api.ErrMatch},
		{"open Prim", "val ! : int ref -> int", api.OK},
		{"datatype d = A | B of int", "type d val A : d", api.OK},
		{"datatype d = A | B of int", "val A : int", api.ErrMatch},
		{"datatype d = A fun A x = x", "datatype d = A", api.ErrMissing},
		{"datatype d = A exception A", "datatype d = A", api.ErrMissing},
		{"datatype d = A datatype e = A | B", "datatype d = A", api.ErrMatch},
		{"datatype d = A datatype e = A", "datatype e = A", api.OK},
		{"datatype d = A | B datatype d' = datatype d datatype d = A", "datatype d = A", api.OK},
		{"type d = o datatype e = O fun K x = x", "type d = o", api.OK},
		{"datatype d = datatype o", "datatype d = O | K of int", api.OK},
		{"datatype d = datatype o fun O x = 1", "datatype d = O | K of int", api.ErrMissing},
		{"datatype d = datatype o fun K x = 1", "datatype d = O | K of int", api.ErrMissing},
	})
}

// Point 4: structures within structures.
func TestStructuresAreThere(t *testing.T) {
	tryHolds(t, "", []holds{
		{"", "structure U : sig end", api.ErrMissing},
		{"val U = 1 type U = int", "structure U : sig end", api.ErrMissing},
		{"structure U = struct end", "structure U : sig end", api.OK},
		{"structure U = struct val x = 1 end", "structure U : sig val x : int end", api.OK},
		{"structure U = struct val x = 1 end", "structure U : sig val x : bool end", api.ErrMatch},
		{"structure U = struct val x = 1 end", "structure U : sig val y : int end", api.ErrMissing},
		{"val x = 1 structure U = struct end", "structure U : sig val x : int end", api.ErrMissing},
		{"structure U = struct val x = 1 end structure U = struct val x = true end", "structure U : sig val x : bool end", api.OK},
		{"structure U = struct val x = 1 end structure U = struct val x = true end", "structure U : sig val x : int end", api.ErrMatch},
		{"structure U = struct type t = int end", "structure U : sig type t = bool end", api.ErrMatch},
		{"structure U = struct structure V = struct exception E end end", "structure U : sig structure V : sig exception E of int end end", api.ErrMatch},
		{"structure U = struct structure V = struct end end", "structure U : sig structure V : sig exception E end end", api.ErrMissing},
		{"structure U = struct datatype d = A end", "structure U : sig datatype d = A end val x : U.d", api.ErrMissing},
		{"structure U = struct datatype d = A end val x = U.A", "structure U : sig datatype d = A end val x : U.d", api.OK},
	})
}

// The Env that transparent matching tells: the realized one.
func TestTransparent(t *testing.T) {
	const body = "struct type t = int type 'a u = 'a list datatype d = A | B of t val x = 1 fun f y = y val z = [1] val hidden = 1 exception E of int structure T = struct type v = bool val w = true val hidden = 1 end end"
	const sig = "sig type t type 'a u datatype d = B of t | A val z : int u val f : t -> t exception E of t structure T : sig type v val w : v end end"
	d := played(t, "structure R = "+body+" structure S : "+sig+" = R val a = S.f 1 + 1 val b = 2 :: S.z val c = [R.A, S.A] val S.B e = R.B 3 val g = [true, S.T.w]")
	d.is("S.f", "int -> int", "S.z", "int list", "S.A", "d", "S.B", "int -> d", "S.E", "int -> exn", "S.T.w", "bool", "a", "int", "b", "int list", "e", "int", "g", "bool list", "c", "d list")
	if d.con("S.t") != api.ConInt || d.con("S.d") != d.con("R.d") || d.text(d.typ("S.u").Scheme.Type) != "'a list" || d.text(d.typ("S.T.v").Scheme.Type) != "bool" {
		t.Error("the types of S")
	}
	for _, c := range append(d.typ("S.d").Cons, d.val("S.A"), d.val("S.B")) {
		if c.Con != d.con("R.d") || c.Count != 2 {
			t.Errorf("the constructor %v", c)
		}
	}
	d.hides("S")
}

// hides asks that only what the signature names is in a structure.
func (d *desk) hides(name string) {
	d.t.Helper()
	for _, text := range []string{"val n = " + name + ".hidden", "val n = " + name + ".T.hidden", "val n = " + name + ".x"} {
		if _, e := d.play(text); e != api.ErrUnbound {
			d.t.Errorf("%q: %v", text, e)
		}
	}
}

// The Env that opaque matching tells: the signature's with new types.
func TestOpaque(t *testing.T) {
	const body = "struct type t = int type 'a u = 'a list datatype d = A | B of t val x = 1 fun f y = y val z = [1] val hidden = 1 exception E of int type m = string type e = int structure T = struct type v = bool val w = true val hidden = 1 end end"
	const sig = "sig type t type 'a u datatype d = B of t | A val z : int u val f : t -> t exception E of t eqtype e type m = string structure T : sig type v val w : v end end"
	d := played(t, "structure R = "+body+" structure S :> "+sig+" = R")
	d.is("S.f", "t -> t", "S.z", "int u", "S.A", "d", "S.B", "t -> d", "S.E", "t -> exn", "S.T.w", "v")
	met := map[int]bool{}
	for _, c := range []struct {
		name  string
		arity int
		equal api.Equality
	}{{"t", 0, api.Never}, {"u", 1, api.Never}, {"d", 0, api.Never}, {"e", 0, api.If}, {"T.v", 0, api.Never}} {
		con := d.con("S." + c.name)
		name, arity, equal := d.named(con)
		_, last := long(c.name)
		if met[con] || con < d.con("R.d") || name != last || arity != c.arity || equal != c.equal {
			t.Errorf("S.%s is %s, %d, %v", c.name, name, arity, equal)
		}
		met[con] = true
	}
	if d.con("S.m") != api.ConString {
		t.Error("S.m is another type")
	}
	for _, c := range append(d.typ("S.d").Cons, d.val("S.A"), d.val("S.B")) {
		if c.Con != d.con("S.d") || c.Count != 2 {
			t.Errorf("the constructor %v", c)
		}
	}
	d.hides("S")
	for text, want := range map[string]api.Errno{
		"val v = S.f 1": api.ErrUnify, "val v = [R.A, S.A]": api.ErrUnify, "val v = S.A = S.A": api.ErrEquality, "val v = fn (x : S.e) => x = x": api.OK, "val v = fn (x : S.t) => x = x": api.ErrEquality, "val v = 1 :: S.z": api.ErrUnify, "val v = fn (x : S.m) => x = \"\"": api.OK, "val v = fn S.A => 1 | S.B _ => 2": api.OK, "val v = S.B 1": api.ErrUnify,
	} {
		if _, e := d.play(text); e != want {
			t.Errorf("%q: %v; want %v", text, e, want)
		}
	}
}

// Each opaque ascription makes types of its own, by a signature's name, too.
func TestOpaqueTwice(t *testing.T) {
	d := played(t, "signature G = sig type t val x : t end structure A = struct type t = int val x = 1 end structure S :> G = A structure T :> G = A structure U :> sig type t val x : t end = A structure V :> G where type t = int = A val v = V.x + A.x")
	if d.con("S.t") == d.con("T.t") || d.con("U.t") == d.con("T.t") || d.con("V.t") != api.ConInt || d.con("A.t") != api.ConInt {
		t.Error("the types")
	}
	if _, e := d.play("val v = [S.x, T.x]"); e != api.ErrUnify {
		t.Errorf("S.x and T.x: %v", e)
	}
	d.run("val v = [S.x, S.x]")
}

// P10.3: what is declared behind an opaque ascription is told alike with a transparent one, if it is not refused.
func TestOpaqueOrTransparent(t *testing.T) {
	const first = "signature G = sig type t eqtype u datatype d = A | B of t val x : t val y : u val f : t -> u val g : 'a -> t * 'a exception E of t structure S : sig type s val z : s list end end "
	const body = " G = struct type t = int type u = int datatype d = B of int | A val x = 1 val y = 2 fun f z = z fun g z = (1, z) exception E of int structure S = struct type s = bool val z = [true] end end "
	for _, behind := range []string{
		"val a = (M.x, M.y)", "val a = M.f M.x = M.y", "val a = M.g", "val a = [M.A, M.B M.x]", "val a = fn M.A => 1 | M.B _ => 2", "val a = (raise M.E M.x) handle M.E z => z", "val a = nil :: [M.S.z]", "open M val a = (x, f)", "structure N = M val a = N.f", "structure N : G = M val a = N.x", "structure N :> G = M val a = N.x",
		"functor F (X : G) = struct val a = X.f X.x end structure N = F (M) val a = N.a", "val a = M.x + 1", "val a = [M.x, M.y]", "val a = M.x = M.x", "val a = not", "val a = [M.A] = nil", "datatype d = datatype M.d val a = A", "type t = M.t val a = M.x : t", "val a = M.y + 1",
	} {
		one, other := newDesk(t), newDesk(t)
		other.run(first + "structure M :" + body)
		one.run(first + "structure M :>" + body)
		_, e := one.play(behind)
		_, same := other.play(behind)
		if e != api.OK {
			continue // it may be refused
		}
		if same != api.OK {
			t.Errorf("%q: %v, but opaque it is taken", behind, same)
			continue
		}
		a, b := one.val("a"), other.val("a")
		if a.Is != b.Is || !sameAt(a.At, b.At) || len(a.Scheme.Vars) != len(b.Scheme.Vars) || one.names() != other.names() {
			t.Errorf("%q: %v; with a transparent one %v", behind, a, b)
		}
		for i, n := range one.m.Elab().Notes() {
			m := other.m.Elab().Notes()[i]
			if n.Is != m.Is || n.Name != m.Name || !sameAt(n.At, m.At) || n.Tag != m.Tag || n.Count != m.Count || n.Arg != m.Arg {
				t.Errorf("%q: the node %d: %v; with a transparent one %v", behind, i, n, m)
			}
		}
	}
}

// What is not known yet of a structure's type stays so: matching turns nothing.
func TestMatchingTurnsNothing(t *testing.T) {
	d := played(t, "structure A = struct val r = ref nil end structure B = A : sig val r : int list ref end")
	d.is("A.r", "'a list ref", "B.r", "int list ref")
	d.run("val _ = A.r := [true]")
	d.is("A.r", "bool list ref")
}

// P10.3, at random: of programs that are taken with opaque ascriptions.
func TestOpaqueAtRandom(t *testing.T) {
	rounds, taken := 1500, 0
	if testing.Short() {
		rounds = 300
	}
	for seed := range rounds {
		s := &scribe{Rand: rand.New(rand.NewSource(int64(seed)))}
		text := s.program()
		l, root, ok := tryTree(text)
		if !ok || !strings.Contains(text, ":>") {
			continue
		}
		one, other := newDesk(t), newDesk(t)
		if _, _, e := one.m.Program(l, root); e != api.OK {
			continue
		}
		taken++
		for i, n := range l {
			if n.Kind == api.SOpaque {
				l[i].Kind = api.STrans
			}
		}
		if line, column, e := other.m.Program(l, root); e != api.OK {
			t.Fatalf("%q: %v at %d, %d, but opaque it is taken", text, e, line, column)
		}
		if one.names() != other.names() {
			t.Fatalf("%q: %s; with transparent ones %s", text, one.names(), other.names())
		}
		for i, v := range one.env().Vals {
			w := other.env().Vals[i]
			if v.Is != w.Is || !sameAt(v.At, w.At) || v.Tag != w.Tag || v.Count != w.Count || v.Arg != w.Arg || len(v.Scheme.Vars) != len(w.Scheme.Vars) {
				t.Fatalf("%q: %v; with transparent ones %v", text, v, w)
			}
		}
		others := other.m.Elab().Notes()
		for i, n := range one.m.Elab().Notes() {
			if m := others[i]; n.Is != m.Is || n.Name != m.Name || !sameAt(n.At, m.At) || n.Tag != m.Tag || n.Count != m.Count || n.Arg != m.Arg || !slices.Equal(n.Labels, m.Labels) {
				t.Fatalf("%q: the node %d: %v; with transparent ones %v", text, i, n, m)
			}
		}
		for i := range l {
			if a, b := one.m.Parts(i), other.m.Parts(i); !alike(a, b) {
				t.Fatalf("%q: the parts of %d: %v; with transparent ones %v", text, i, a, b)
			}
		}
	}
	if taken < rounds/60 {
		t.Errorf("only %d programs were taken", taken)
	}
}

// alike tells whether two lists of parts are the same but for types.
func alike(a, b []api.Part) bool {
	return slices.EqualFunc(a, b, func(p, q api.Part) bool {
		return p.From.Name == q.From.Name && p.From.Is == q.From.Is && sameAt(p.From.At, q.From.At) && p.Exn == q.Exn && p.Str == q.Str && alike(p.Sub, q.Sub)
	})
}

// P10.5 at random: parts are as many as Slots has names, and what is there has the name.
func TestPartsAtRandom(t *testing.T) {
	for seed := range 300 {
		s := &scribe{Rand: rand.New(rand.NewSource(int64(seed)))}
		text := s.program()
		l, root, ok := tryTree(text)
		if !ok {
			continue
		}
		d := newDesk(t)
		d.l, d.root = l, root
		if _, e := d.start(); e != api.OK {
			continue
		}
		for _, i := range d.nodes(api.NStr) {
			name, made := d.l[i].Text, d.l[i].Kids[0]
			str, ok := elab.FindStr(d.env(), []string{name})
			kind := d.l[made].Kind
			if !ok || !sameAt(d.note(i).At, str.At) || kind != api.SStruct && kind != api.STrans && kind != api.SOpaque {
				continue
			}
			values, structures := elab.Slots(str.Env)
			parts := d.m.Parts(made)
			if len(parts) != len(values)+len(structures) {
				t.Fatalf("%q: %d parts of %s with %v and %v", text, len(parts), name, values, structures)
			}
			for k, field := range append(values, structures...) {
				if parts[k].From.Name != field || parts[k].Str != (k >= len(values)) {
					t.Fatalf("%q: the part %d of %s is %v; want %s", text, k, name, parts[k], field)
				}
			}
		}
	}
}
