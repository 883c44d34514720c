package modules

import (
	"testing"

	"kiln/api"
)

// sig is the last signature.
func (d *desk) sig() api.Sigma {
	d.t.Helper()
	l := d.m.Sigs()
	if len(l) == 0 {
		d.t.Fatal("no signature")
	}
	return l[len(l)-1]
}

// named is what a type constructor is.
func (d *desk) named(con int) (string, int, api.Equality) {
	d.t.Helper()
	name, arity, equal, ok := d.m.Elab().Book().Named(con)
	if !ok {
		d.t.Fatalf("%d is no type constructor", con)
	}
	return name, arity, equal
}

// flex are the flexible type constructors of a signature: names, arguments, equality.
func (d *desk) flex(s api.Sigma) []flexible {
	d.t.Helper()
	var l []flexible
	for i, con := range s.Flex {
		if i > 0 && con <= s.Flex[i-1] {
			d.t.Errorf("the flexible ones are not in the order in which they were made: %v", s.Flex)
		}
		name, arity, equal := d.named(con)
		l = append(l, flexible{name, arity, equal})
	}
	return l
}

type flexible struct {
	name  string
	arity int
	equal api.Equality
}

// XVal: types with new variables, of each NCon its own; schemes over all of them.
func TestValueSpecs(t *testing.T) {
	d := played(t, "signature G = sig val x : int and f : 'a -> 'b -> 'a val e : ''a * ''a -> bool val g : 'a list val h : {b : 'c, a : 'b} end")
	vals := d.sig().Env.Vals
	for i, want := range []struct {
		name, text string
		vars       int
	}{{"x", "int", 0}, {"f", "'a -> 'b -> 'a", 2}, {"e", "''a * ''a -> bool", 1}, {"g", "'a list", 1}, {"h", "{a : 'a, b : 'b}", 2}} {
		e := vals[i]
		if e.Name != want.name || e.Is != api.SVar || d.text(e.Scheme.Type) != want.text || len(e.Scheme.Vars) != want.vars || !sameAt(e.At, id(0)) || e.Arg {
			t.Errorf("%v; want %v", e, want)
		}
	}
	for i, v := range d.m.Elab().Book().Free(vals[1].Scheme.Type) {
		if vals[1].Scheme.Vars[i] != v {
			t.Error("f's variables are in another order")
		}
	}
	if len(d.sig().Flex) != 0 || len(d.sig().Env.Types) != 0 || d.sig().Name != "G" {
		t.Errorf("the signature: %v", d.sig())
	}
	tryWrong(t, []wrong{
		{"signature G = sig val x : nobody end", api.ErrUnbound, api.TCon, "nobody"},
		{"signature G = sig val x : A.t end", api.ErrUnbound, api.TCon, "t"},
		{"signature G = sig val x : int list * (bool, int) list end", api.ErrArity, api.TCon, "list"},
		{"signature G = sig val x : int and y : t val z : u end", api.ErrUnbound, api.TCon, "t"},
		{"signature G = sig val x : t type t end", api.ErrUnbound, api.TCon, "t"},
		{"signature G = sig type t val x : t end", api.OK, 0, ""},
	})
}

// A variable of a value's type in a signature is none whose type is not known yet.
func TestGeneralIsNotUnknown(t *testing.T) {
	tryWrong(t, []wrong{
		{"structure S : sig val r : 'a list ref end = struct val r = ref nil end", api.ErrMatch, api.STrans, ""},
		{"structure S : sig val r : int list ref end = struct val r = ref nil end", api.OK, 0, ""},
		{"structure S : sig type t val r : t list ref end = struct type t = int val r = ref nil end", api.OK, 0, ""},
		{"structure S : sig val r : 'a list end = struct val r = nil end", api.OK, 0, ""},
	})
}

// XType, XEq: new type constructors, which are flexible.
func TestTypeSpecs(t *testing.T) {
	d := played(t, "signature G = sig type t and 'a u eqtype ('a, 'b) v and w type ''a x end")
	s := d.sig()
	want := []flexible{{"t", 0, api.Never}, {"u", 1, api.Never}, {"v", 2, api.If}, {"w", 0, api.If}, {"x", 1, api.Never}}
	got := d.flex(s)
	if len(got) != len(want) || len(s.Env.Types) != len(want) || len(s.Env.Vals) != 0 {
		t.Fatalf("flexible: %v; types %v", got, s.Env.Types)
	}
	for i, w := range want {
		typ := s.Env.Types[i]
		is, _ := d.m.Elab().Book().Look(typ.Scheme.Type)
		if got[i] != w || typ.Name != w.name || len(typ.Cons) != 0 || len(typ.Scheme.Vars) != w.arity || is.Kind != api.YCon || is.Con != s.Flex[i] {
			t.Errorf("%v, %v; want %v", got[i], typ, w)
		}
		for k, v := range typ.Scheme.Vars {
			if is.Args[k] != v {
				t.Errorf("the arguments of %v", typ)
			}
		}
	}
	if d.names() != "signature G" {
		t.Errorf("there are %s", d.names())
	}
}

// XAlias: as DType: nothing is flexible.
func TestAliasSpecs(t *testing.T) {
	d := played(t, "type t = bool signature G = sig type t = int and u = t type 'a v = 'a * t type w = t v end")
	s := d.sig()
	for i, want := range []string{"int", "bool", "'a * int", "int * int"} {
		if got := d.text(s.Env.Types[i].Scheme.Type); got != want {
			t.Errorf("the type %d is %s; want %s", i, got, want)
		}
	}
	if len(s.Flex) != 0 || len(s.Env.Types) != 4 {
		t.Errorf("the signature: %v", s)
	}
	tryWrong(t, []wrong{
		{"signature G = sig type t = nobody end", api.ErrUnbound, api.TCon, "nobody"},
		{"signature G = sig type t = int and u = t end", api.ErrUnbound, api.TCon, "t"},
	})
}

// XData: as DData; the type constructors that are left are flexible, in the order in which they were made.
func TestDataSpecs(t *testing.T) {
	d := played(t, "signature G = sig datatype 'a d = B of 'a * e | A and e = C of int d datatype n = N of int -> int and m = M | K of n and k = L val x : n end")
	s := d.sig()
	got := d.flex(s)
	// n and m have no equality, and are made anew, behind k.
	want := []flexible{{"d", 1, api.If}, {"e", 0, api.If}, {"k", 0, api.If}, {"n", 0, api.Never}, {"m", 0, api.Never}}
	if len(got) != len(want) {
		t.Fatalf("flexible: %v", got)
	}
	for i, w := range want {
		if got[i] != w {
			t.Errorf("flexible: %v; want %v", got[i], w)
		}
	}
	places := map[string]int{}
	for i, f := range got {
		places[f.name] = s.Flex[i]
	}
	for _, typ := range s.Env.Types {
		is, _ := d.m.Elab().Book().Look(typ.Scheme.Type)
		if is.Con != places[typ.Name] || len(typ.Cons) == 0 {
			t.Errorf("the type %v", typ)
		}
		for _, c := range typ.Cons {
			if c.Con != places[typ.Name] || c.Count != len(typ.Cons) || c.Is != api.SCon {
				t.Errorf("the constructor %v", c)
			}
		}
	}
	vals := map[string]api.Entry{}
	for _, e := range s.Env.Vals {
		vals[e.Name] = e
	}
	if len(vals) != 8 || vals["A"].Tag != 0 || vals["B"].Tag != 1 || d.text(vals["B"].Scheme.Type) != "'a * e -> 'a d" || d.text(vals["K"].Scheme.Type) != "n -> m" || vals["K"].Con != places["m"] || !sameAt(vals["K"].At, id(0)) {
		t.Errorf("the values: %v", vals)
	}
	tryWrong(t, []wrong{
		{"signature G = sig datatype d = D of nobody end", api.ErrUnbound, api.TCon, "nobody"},
		{"signature G = sig datatype d = D of e datatype e = E end", api.ErrUnbound, api.TCon, "e"},
		{"signature G = sig datatype 'a d = D of d end", api.ErrArity, api.TCon, "d"},
	})
}

// XExn: schemes without variables.
func TestExceptionSpecs(t *testing.T) {
	d := played(t, "signature G = sig type t exception E and F of t exception H of int * exn end")
	for i, want := range []struct {
		name, text string
		arg        bool
	}{{"E", "exn", false}, {"F", "t -> exn", true}, {"H", "int * exn -> exn", true}} {
		e := d.sig().Env.Vals[i]
		if e.Name != want.name || e.Is != api.SExn || d.text(e.Scheme.Type) != want.text || e.Arg != want.arg || len(e.Scheme.Vars) != 0 || !sameAt(e.At, id(0)) {
			t.Errorf("%v; want %v", e, want)
		}
	}
	tryWrong(t, []wrong{
		{"signature G = sig exception E of 'a end", api.ErrUnbound, api.TVar, "'a"},
		{"signature G = sig exception E of int * 'b list end", api.ErrUnbound, api.TVar, "'b"},
		{"signature G = sig exception E of nobody end", api.ErrUnbound, api.TCon, "nobody"},
		{"signature G = sig exception E of E end", api.ErrUnbound, api.TCon, "E"},
	})
}

// XStr: its flexible ones are flexible here, too; its names are known behind it.
func TestStructureSpecs(t *testing.T) {
	d := played(t, "signature H = sig type h end signature G = sig type a structure S : sig type s structure T : H val x : T.h * s end and U : H eqtype b val y : S.T.h -> U.h -> S.s end")
	s := d.sig()
	got := d.flex(s)
	want := []string{"a", "s", "h", "h", "b"}
	if len(got) != len(want) {
		t.Fatalf("flexible: %v", got)
	}
	for i, name := range want {
		if got[i].name != name {
			t.Errorf("flexible: %v; want %s", got[i], name)
		}
	}
	if len(s.Env.Strs) != 2 || s.Env.Strs[0].Name != "S" || s.Env.Strs[1].Name != "U" || !sameAt(s.Env.Strs[0].At, id(0)) || len(s.Env.Strs[0].Env.Strs) != 1 {
		t.Errorf("the structures: %v", s.Env.Strs)
	}
	if got := d.text(s.Env.Vals[0].Scheme.Type); got != "h -> h -> s" {
		t.Errorf("y : %s", got)
	}
	if s.Flex[2] == s.Flex[3] || s.Flex[2] == d.m.Sigs()[0].Flex[0] || s.Flex[3] == d.m.Sigs()[0].Flex[0] {
		t.Errorf("H's types: %v", s.Flex)
	}
	tryWrong(t, []wrong{
		{"signature G = sig structure S : Nobody end", api.ErrUnbound, api.GName, "Nobody"},
		{"signature G = sig structure S : sig val x : nobody end end", api.ErrUnbound, api.TCon, "nobody"},
		{"signature G = sig structure S : sig type t end and T : sig val x : S.t end end", api.ErrUnbound, api.TCon, "t"},
		{"signature G = sig structure S : sig type t end structure T : sig val x : S.t end end", api.OK, 0, ""},
		{"signature G = sig structure S : sig type t end end val x = 1 : S.t", api.ErrUnbound, api.TCon, "t"},
		{"signature G = sig type t end type u = t", api.ErrUnbound, api.TCon, "t"},
		{"signature G = sig datatype d = D end val x = D", api.ErrUnbound, api.EName, "D"},
		{"structure S = struct type t = int end signature G = sig val x : S.t structure S : sig end val y : S.t end", api.ErrUnbound, api.TCon, "t"},
	})
}

// GName: a signature's own flexible ones, made anew each time.
func TestSignatureNames(t *testing.T) {
	d := played(t, "signature G = sig type 'a t eqtype u datatype d = D of u type a = int val x : int t * u * d * a structure S : sig type s end end signature H = G signature I = H")
	l := d.m.Sigs()
	met := map[int]bool{}
	for _, s := range l {
		got := d.flex(s)
		want := []flexible{{"t", 1, api.Never}, {"u", 0, api.If}, {"d", 0, api.If}, {"s", 0, api.Never}}
		if len(got) != len(want) {
			t.Fatalf("%s: flexible: %v", s.Name, got)
		}
		for i, w := range want {
			if got[i] != w || met[s.Flex[i]] {
				t.Errorf("%s: %v, %d; want %v", s.Name, got[i], s.Flex[i], w)
			}
			met[s.Flex[i]] = true
		}
		cons := []int{}
		for _, typ := range append(s.Env.Types[:3:3], s.Env.Strs[0].Env.Types...) {
			is, _ := d.m.Elab().Book().Look(typ.Scheme.Type)
			cons = append(cons, is.Con)
		}
		for i, con := range cons {
			if con != s.Flex[i] {
				t.Errorf("%s: types %v; flexible %v", s.Name, cons, s.Flex)
			}
		}
		if c := s.Env.Types[2].Cons[0]; c.Con != s.Flex[2] || s.Env.Vals[0].Con != s.Flex[2] || s.Env.Vals[0].Name != "D" {
			t.Errorf("%s: the constructor %v", s.Name, c)
		}
		x, _ := d.m.Elab().Book().Look(s.Env.Vals[1].Scheme.Type)
		for i, want := range []int{s.Flex[0], s.Flex[1], s.Flex[2], api.ConInt} {
			if is, _ := d.m.Elab().Book().Look(x.Args[i]); is.Con != want {
				t.Errorf("%s: x's field %d is of %d; want %d", s.Name, i, is.Con, want)
			}
		}
	}
	tryWrong(t, []wrong{{"structure S = struct end signature G = S", api.ErrUnbound, api.GName, "S"}})
}

// GWhere: a type is realized, and no more flexible.
func TestWhere(t *testing.T) {
	d := played(t, "type o = bool signature G = sig type t and 'a u eqtype v structure S : sig type s val x : s end val y : t * int u * v end signature H = G where type t = o * int where type 'a u = 'a list where type S.s = string")
	s := d.sig()
	got := d.flex(s)
	if len(got) != 1 || got[0].name != "v" {
		t.Errorf("flexible: %v", got)
	}
	for i, want := range []string{"bool * int", "'a list", "v"} {
		if got := d.text(s.Env.Types[i].Scheme.Type); got != want {
			t.Errorf("the type %d is %s; want %s", i, got, want)
		}
	}
	if got := d.text(s.Env.Strs[0].Env.Types[0].Scheme.Type); got != "string" {
		t.Errorf("S.s is %s", got)
	}
	if got := d.text(s.Env.Strs[0].Env.Vals[0].Scheme.Type); got != "string" {
		t.Errorf("S.x : %s", got)
	}
	if got := d.text(s.Env.Vals[0].Scheme.Type); got != "(bool * int) * int list * v" {
		t.Errorf("y : %s", got)
	}
	if got := d.flex(d.m.Sigs()[0]); len(got) != 4 {
		t.Errorf("G's flexible ones: %v", got)
	}
}

// GWhere by another name of a type, and by arguments in another order.
func TestWhereByOtherNames(t *testing.T) {
	d := played(t, "signature G = sig type ('a, 'b) t type ('a, 'b) u = ('a, 'b) t val x : (int, bool) t end where type ('b, 'c) u = 'c -> 'b")
	s := d.sig()
	if len(s.Flex) != 0 {
		t.Errorf("flexible: %v", s.Flex)
	}
	if got := d.text(s.Env.Vals[0].Scheme.Type); got != "bool -> int" {
		t.Errorf("x : %s", got)
	}
	tryWrong(t, []wrong{
		{"signature G = sig type ('a, 'b) t type ('a, 'b) u = ('b, 'a) t end where type ('a, 'b) u = 'a", api.ErrWhere, api.NWhere, "u"},
		{"signature G = sig type 'a t type 'a u = int t end where type 'a u = 'a", api.ErrWhere, api.NWhere, "u"},
		{"signature G = sig type 'a t type u = int t end where type u = int", api.ErrWhere, api.NWhere, "u"},
		{"signature G = sig type t type 'a u = t end where type 'a u = int", api.ErrWhere, api.NWhere, "u"},
		{"signature G = sig type t type u = t * t end where type u = int", api.ErrWhere, api.NWhere, "u"},
		{"signature G = sig type t type u = t end where type u = int where type t = int", api.ErrWhere, api.NWhere, "t"},
	})
}

// GWhere's faults, each at its NWhere, or where the type has one.
func TestWhereFaults(t *testing.T) {
	tryWrong(t, []wrong{
		{"signature G = sig type t end where type u = int", api.ErrUnbound, api.NWhere, "u"},
		{"signature G = sig structure S : sig type t end end where type t = int", api.ErrUnbound, api.NWhere, "t"},
		{"signature G = sig type t end where type S.t = int", api.ErrUnbound, api.NWhere, "t"},
		{"signature G = sig structure S : sig type t end end where type T.t = int", api.ErrUnbound, api.NWhere, "t"},
		{"type u = int signature G = sig type t end where type u = int", api.ErrUnbound, api.NWhere, "u"},
		{"signature G = sig type t = int end where type t = int", api.ErrWhere, api.NWhere, "t"},
		{"signature G = sig type t = int list end where type t = int", api.ErrWhere, api.NWhere, "t"},
		{"datatype o = O signature G = sig type t = o end where type t = int", api.ErrWhere, api.NWhere, "t"},
		{"signature G = sig type t end where type t = int where type t = int", api.ErrWhere, api.NWhere, "t"},
		{"signature G = sig datatype t = T end where type t = int", api.ErrWhere, api.NWhere, "t"},
		{"signature G = sig datatype t = T type u = t end where type u = int", api.ErrWhere, api.NWhere, "u"},
		{"signature G = sig structure S : sig datatype t = T end type u = S.t end where type u = int", api.ErrWhere, api.NWhere, "u"},
		{"signature G = sig type t end where type t = nobody", api.ErrUnbound, api.TCon, "nobody"},
		{"signature G = sig type t type u end where type t = u", api.ErrUnbound, api.TCon, "u"},
		{"signature G = sig type t end where type t = int list list", api.OK, 0, ""},
		{"signature G = sig type t end where type 'a t = int", api.ErrMatch, api.NWhere, "t"},
		{"signature G = sig type 'a t end where type t = int", api.ErrMatch, api.NWhere, "t"},
		{"signature G = sig type ('a, 'b) t end where type 'a t = 'a", api.ErrMatch, api.NWhere, "t"},
		{"signature G = sig eqtype t end where type t = int -> int", api.ErrMatch, api.NWhere, "t"},
		{"signature G = sig eqtype t end where type t = real", api.ErrMatch, api.NWhere, "t"},
		{"signature G = sig eqtype t end where type t = {a : int, b : exn list}", api.ErrMatch, api.NWhere, "t"},
		{"signature G = sig eqtype t end where type t = (int -> int) ref", api.OK, 0, ""},
		{"signature G = sig eqtype 'a t end where type 'a t = 'a list * int", api.OK, 0, ""},
		{"signature G = sig eqtype 'a t end where type 'a t = 'a list * (int -> 'a)", api.ErrMatch, api.NWhere, "t"},
		{"signature G = sig eqtype 'a t end where type ''a t = ''a ref", api.OK, 0, ""},
		{"datatype n = N of int -> int signature G = sig eqtype t end where type t = n", api.ErrMatch, api.NWhere, "t"},
		{"signature G = sig type t end where type t = int -> int", api.OK, 0, ""},
		{"structure A :> sig type t end = struct type t = int end signature G = sig eqtype t end where type t = A.t", api.ErrMatch, api.NWhere, "t"},
	})
}
