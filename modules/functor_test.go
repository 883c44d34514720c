package modules

import (
	"testing"

	"kiln/api"
)

// SApp: the functor's note, parts at it alone, and the body with the argument's types.
func TestApplications(t *testing.T) {
	d := played(t, "functor F (X : sig type t val x : t type 'a u val f : 'a -> 'a u structure S : sig eqtype s end end) = struct val y = X.x type v = X.t list val z = [X.x] val g = X.f fun h (a : X.S.s) = a = a structure T = X end structure A = struct val w = 1 type t = int val x = 1 type 'a u = 'a list fun f x = [x] structure S = struct type s = bool end end structure P = F (A)")
	d.is("P.y", "int", "P.z", "int list", "P.g", "'a -> 'a list", "P.h", "bool -> bool", "P.T.x", "int", "P.T.f", "'a -> 'a list")
	if got := d.text(d.typ("P.v").Scheme.Type); got != "int list" {
		t.Errorf("P.v is %s", got)
	}
	if d.con("P.T.t") != api.ConInt {
		t.Errorf("P.T.t is %d", d.con("P.T.t"))
	}
	f := d.m.Functors()[0]
	at := d.node(api.SApp)
	if got := d.note(at); got.Is != api.SVar || !sameAt(got.At, f.At) || f.At.Id < 100 {
		t.Errorf("the note of the application: %v; the functor is at %v", got, f.At)
	}
	sameParts(t, "the application", d.m.Parts(at), []part{{name: "f", is: api.SVar, at: id(0, 0)}, {name: "x", is: api.SVar, at: id(0, 2)}, {name: "S", at: id(0, 3), str: true}})
	if got := d.text(f.Body.Vals[0].Scheme.Type); got != "t" {
		t.Errorf("the functor's y : %s", got)
	}
	if _, e := d.play("val n = P.T.w"); e != api.ErrUnbound {
		t.Errorf("what the parameter's signature does not name: %v", e)
	}
	tryWrong(t, []wrong{
		{"structure P = F (struct end)", api.ErrUnbound, api.SApp, "F"},
		{"structure F = struct end structure P = F (struct end)", api.ErrUnbound, api.SApp, "F"},
		{"signature F = sig end structure P = F (struct end)", api.ErrUnbound, api.SApp, "F"},
		{"functor F (X : sig end) = X structure P = F (Nobody)", api.ErrUnbound, api.SName, "Nobody"},
		{"functor F (X : sig end) = X structure P = F", api.ErrUnbound, api.SName, "F"},
	})
}

// P10.6: each application makes new types, of the same names, arguments and equality.
func TestNewTypes(t *testing.T) {
	const body = "struct datatype 'a d = D of 'a | N and e = E of int d datatype n = M of X.t -> X.t structure T :> sig eqtype q val q : q end = struct type q = int val q = 1 end type a = int type x = X.t val l = [N] end"
	d := played(t, "functor F (X : sig type t end) = "+body+" structure A = struct type t = int end structure P = F (A) structure Q = F (A) structure R = P")
	f := d.m.Functors()[0]
	for name, want := range map[string]flexible{"d": {"d", 1, api.If}, "e": {"e", 0, api.If}, "n": {"n", 0, api.Never}, "T.q": {"q", 0, api.If}} {
		p, q := d.con("P."+name), d.con("Q."+name)
		for _, con := range []int{p, q} {
			if n, arity, equal := d.named(con); (flexible{n, arity, equal}) != want {
				t.Errorf("%s is %s, %d, %v", name, n, arity, equal)
			}
			if con <= f.New[len(f.New)-1] {
				t.Errorf("%s is one of the functor's own", name)
			}
		}
		if p == q || d.con("R."+name) != p {
			t.Errorf("%s: %d of P, %d of Q", name, p, q)
		}
	}
	if d.con("P.a") != api.ConInt || d.con("P.x") != api.ConInt {
		t.Error("types that are written are made anew")
	}
	for _, of := range []string{"P", "Q"} {
		for _, c := range append(d.typ(of+".d").Cons, d.val(of+".D"), d.val(of+".N")) {
			if c.Con != d.con(of+".d") {
				t.Errorf("the constructor %v of %s", c, of)
			}
		}
		d.is(of+".D", "'a -> 'a d", of+".E", "int d -> e", of+".M", "(int -> int) -> n")
	}
	for text, want := range map[string]api.Errno{
		"val v = [P.N, Q.N]": api.ErrUnify, "val v = P.E Q.N": api.ErrUnify, "val v = P.E (P.D 1) = P.E P.N": api.OK, "val v = [P.T.q, Q.T.q]": api.ErrUnify, "val v = [P.T.q, R.T.q]": api.OK, "val v = fn P.M f => f 1": api.OK, "val v = fn P.N => 1 | Q.N => 2": api.ErrUnify, "val v = fn (p : P.n) => p = p": api.ErrEquality,
	} {
		if _, e := d.play(text); e != want {
			t.Errorf("%q: %v; want %v", text, e, want)
		}
	}
}

// The order in which an application's types are made: that of the functor's.
func TestOrderOfNewTypes(t *testing.T) {
	d := played(t, "functor F (X : sig type t end) = struct datatype a = A datatype b = B datatype c = C end structure P = F (type t = int)")
	f := d.m.Functors()[0]
	if len(f.New) != 3 || d.con("P.b") != d.con("P.a")+1 || d.con("P.c") != d.con("P.a")+2 {
		t.Errorf("F makes %v; P has %d, %d, %d", f.New, d.con("P.a"), d.con("P.b"), d.con("P.c"))
	}
	for i, con := range f.New {
		if want, _, _ := d.named(con); want != []string{"a", "b", "c"}[i] {
			t.Errorf("F makes %s", want)
		}
	}
}

// A functor's body with a signature, opaque or not; functors in functors' bodies; arguments that were made by functors.
func TestFunctorsOfFunctors(t *testing.T) {
	d := played(t, "signature G = sig type t val x : t end functor F (X : G) : G = struct type t = X.t list val x = [X.x] end functor H (X : G) :> G = F (F (X)) structure A = struct type t = int val x = 1 end structure P = F (F (A)) structure Q = H (A) structure R = H (P)")
	d.is("P.x", "int list list", "Q.x", "t", "R.x", "t")
	if d.con("Q.t") == d.con("R.t") {
		t.Error("Q's and R's t are the same")
	}
	if _, e := d.play("val v = [Q.x, R.x]"); e != api.ErrUnify {
		t.Errorf("Q's and R's x: %v", e)
	}
	d.run("structure S = F (Q) val v = [[Q.x], S.x]")
	d.is("S.x", "t list")
}

// A functor's argument is matched by its parameter's signature: what the argument has beside it plays no part; nor does the name.
func TestArguments(t *testing.T) {
	d := played(t, "functor F (X : sig type t val f : t -> t end) = struct val g = X.f end structure P = F (type t = int fun f x = x val unused = 1) structure Q = F (struct datatype t = T fun f T = T end)")
	d.is("P.g", "int -> int", "Q.g", "t -> t")
	tryWrong(t, []wrong{
		{"functor F (X : sig type t val x : t end) = struct end structure P = F (type t = int val x = true)", api.ErrMatch, api.SApp, "F"},
		{"functor F (X : sig type t val x : t end) = struct end structure P = F (type t = int)", api.ErrMissing, api.SApp, "F"},
		{"functor F (X : sig type t end) = struct val x = 1 : X.t end", api.ErrUnify, api.ETyped, ""},
		{"functor F (X : sig eqtype t end) = struct fun f (x : X.t) = x = x end", api.OK, 0, ""},
		{"functor F (X : sig type t end) = struct fun f (x : X.t) = x = x end", api.ErrEquality, api.EApp, ""},
	})
}

// Values in a functor's body whose types are not known are the same in all that it makes.
func TestUnknownTypesInBodies(t *testing.T) {
	d := played(t, "functor F (X : sig end) = struct val r = ref nil end structure P = F (struct end) structure Q = F (struct end) val _ = P.r := [1]")
	d.is("P.r", "int list ref", "Q.r", "int list ref")
}

// A program as people write them.
func TestSets(t *testing.T) {
	d := played(t, `
datatype order = LESS | EQUAL | GREATER
fun nil @ m = m | (x :: l) @ m = x :: l @ m
signature ORD = sig type t val compare : t * t -> order end
signature SET = sig
  type elem
  type set
  exception Empty
  val empty : set
  val add : elem * set -> set
  val member : elem * set -> bool
  val least : set -> elem
  val list : set -> elem list
end
functor Set (X : ORD) :> SET where type elem = X.t = struct
  type elem = X.t
  datatype set = E | T of set * elem * set
  exception Empty
  val empty = E
  fun add (x, E) = T (E, x, E)
    | add (x, t as T (l, y, r)) = case X.compare (x, y) of LESS => T (add (x, l), y, r) | GREATER => T (l, y, add (x, r)) | EQUAL => t
  fun member (x, E) = false
    | member (x, T (l, y, r)) = case X.compare (x, y) of LESS => member (x, l) | GREATER => member (x, r) | EQUAL => true
  fun least E = raise Empty | least (T (E, x, _)) = x | least (T (l, _, _)) = least l
  fun list E = nil | list (T (l, x, r)) = list l @ x :: list r
end
functor Pairs (X : sig structure A : ORD structure B : ORD end) = struct
  type t = X.A.t * X.B.t
  fun compare ((a, b), (c, d)) = case X.A.compare (a, c) of EQUAL => X.B.compare (b, d) | other => other
end
structure Ints = struct type t = int fun compare (a : int, b) = if a < b then LESS else if a = b then EQUAL else GREATER end
structure Texts = struct type t = string fun compare (a : string, b) = if a < b then LESS else if a = b then EQUAL else GREATER end
structure IntSet = Set (Ints)
structure PairSet = Set (Pairs (struct structure A = Ints structure B = Texts end))
val s = IntSet.add (3, IntSet.empty)
val l = IntSet.list s
val p = PairSet.add ((1, "a"), PairSet.empty)
val x = PairSet.least p handle PairSet.Empty => (0, "")
`)
	d.is("s", "set", "l", "int list", "x", "int * string", "PairSet.member", "(int * string) * set -> bool")
	for text, want := range map[string]api.Errno{"val y = IntSet.list p": api.ErrUnify, "val y = IntSet.add (true, s)": api.ErrUnify, "val y = s = s": api.ErrEquality, "val y = IntSet.E": api.ErrUnbound, "structure Q = Set (struct type t = int end)": api.ErrMissing} {
		if _, e := d.play(text); e != want {
			t.Errorf("%q: %v; want %v", text, e, want)
		}
	}
}
