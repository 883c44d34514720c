package derive

import (
	"math"
	"strings"
	"testing"

	"kiln/api"
)

// P6.1: each restriction, at its place.
func TestRestrictions(t *testing.T) {
	for errno, all := range map[api.Errno][]string{
		api.ErrTwice: {
			// Labels.
			"val {a, ¦a, ...} = r",
			"val {a = _, b, ¦a : t as x, a} = r",
			"val {1 = _, ¦1 = _} = r",
			"val x = {a = 1, b = 2, ¦b = 3, a = 4}",
			"val x = {a = {}, ¦a = 3}",
			"val x = fn {a = {b, ¦b}, c, c} => 1",
			"val x : {a : t, ¦a : t} = 1",
			"type t = {1 : t, a : t, ¦1 : t}",
			// What is bound by val rec and fun.
			"val rec f = fn x => x and ¦f = fn y => y",
			"val rec f = fn x => x and g = fn x => x and ¦f : t : u = (fn y => y) : t",
			"fun f x = 1 and ¦f y = 2",
			"fun f x = 1 | f y = 2 and g x = 1 and ¦op f y = 2 and g x = 3",
			"fun x + y = 1 and ¦op + x = 2",
			// Types and constructors.
			"type t = int and ¦t = int",
			"type t = int and u = t and ¦'a t = int",
			"datatype t = A and u = B and ¦t = C",
			"datatype t = A | ¦A",
			"datatype t = A | B and u = C | ¦A of t",
			"datatype t = A and ¦'a t = A", // types ahead of constructors
			"signature S = sig type t and ¦t end",
			"signature S = sig type t and u and ¦'a t end",
			"signature S = sig eqtype t and ¦t end",
			"signature S = sig type t = u and ¦t = v end",
			"signature S = sig datatype t = A and ¦t = B end",
			"signature S = sig datatype t = A and u = B | ¦A end",
			// Exceptions, values, modules.
			"exception E and ¦E",
			"exception E of t and F = G and ¦E = F",
			"exception E = F and ¦E",
			"signature S = sig exception E and ¦E of t end",
			"signature S = sig val x : t and y : t and ¦x : u end",
			"structure S = A and T = B and ¦S = C",
			"signature S = A and ¦S = B",
			"functor F (X : S) = A and ¦F (Y : S) = B",
			"signature S = sig structure A : S and ¦A : S end",
			// Type variables ahead.
			"type ('a, ¦'a) t = int",
			"type ('a, 'b, ¦'a, 'b) t = 'c",
			"type ('a, 'b) t = int and ('a, 'b, ¦'b) u = int",
			"datatype ('a, ¦'a) t = A",
			"signature S = sig type ('a, ¦'a) t end",
			"signature S = sig type t and ('a, 'b, ¦'b) u end",
			"signature S = sig eqtype ('a, ¦'a) t end",
			"signature S = sig type ('a, ¦'a) t = int end",
			"signature S = sig datatype ('a, ¦'a) t = A end",
			"signature S = T where type ('a, ¦'a) A.t = int",
			// Signatures.
			"signature S = sig val x : int exception ¦x end",
			"signature S = sig val x : int val y : int val ¦x : t end",
			"signature S = sig exception E exception ¦E end",
			"signature S = sig val A : int datatype t = ¦A end",
			"signature S = sig datatype t = A val ¦A : int end",
			"signature S = sig datatype t = A | B and u = C exception ¦C end",
			"signature S = sig datatype t = A datatype u = B | ¦A end",
			"signature S = sig type t type ¦t end",
			"signature S = sig type t eqtype u and ¦t end",
			"signature S = sig type t type ¦t = int end",
			"signature S = sig type t = int datatype u = A and ¦t = B end",
			"signature S = sig datatype u = A and t = B eqtype ¦t end",
			"signature S = sig structure A : S structure B : S and ¦A : S end",
			"signature S = sig type t type ¦t val x : int val x : int end", // from the left
			"signature S = sig val A : int type t datatype ¦t = A end",
			"signature S = sig val A : int type u datatype t = ¦A and u = B end",
			"structure A : sig type t type ¦t end = B",
			"functor F (X : sig type t type ¦t end) = B",
		},
		api.ErrRec: {
			"val rec ¦x = 1",
			"val rec ¦_ = fn x => x",
			"val rec ¦A.f = fn x => x",
			"val rec ¦A.f : t = fn x => x",
			"val rec ¦f as g = fn x => x",
			"val rec ¦(f, g) = fn x => x",
			"val rec ¦f = g",
			"val rec ¦f = #a",
			"val rec ¦f = g : t",
			"val rec ¦f = raise fn x => x",
			"val rec f = fn x => x and ¦g = f and h = 1",
			"val rec f = fn x => x and f = fn x => x and ¦g = f", // ahead of names
			"val rec f = fn x => x and f = fn x => x and ¦g : t as _ = fn x => x",
			"val x = let val rec ¦f = () in 1 end",
		},
		api.ErrClause: {
			"fun f x = 1 | ¦g x = 2",
			"fun f x = 1 | f x = 2 | ¦g x = 3 | h x = 4",
			"fun f x y = 1 | ¦f x = 2",
			"fun f x = 1 | ¦f x y = 2",
			"fun f x = 1 | ¦op g x = 2 | f x y = 3",
			"fun x + y = 1 | ¦op + x y = 2",
			"fun x + y = 1 | ¦x - y = 2",
			"fun g x = 1 and f x = 1 | ¦g x = 2",
			"fun nil x = 1 | ¦g x = 2", // ahead of what may be bound
		},
		api.ErrTyvar: {
			"type t = ¦'a",
			"type 'a t = ¦'b",
			"type 'a t = ¦''a",
			"type ('a, 'b) t = 'a * {x : 'b, y : ¦'c -> 'd} list",
			"type 'a t = 'a and u = ¦'a",
			"datatype t = A of ¦'a",
			"datatype 'a t = A | B of 'a | C of ('a -> ¦'b) * 'c | D of 'd",
			"datatype 'a t = A of 'a and u = B of ¦'a",
			"signature S = sig type t = ¦'a end",
			"signature S = sig datatype t = A of ¦'a end",
			"signature S = T where type t = ¦'a",
			"signature S = T where type 'b A.t = ('b, ¦'a) u",
			"structure S : sig end where type t = ¦'a = A",
		},
		api.ErrBound: {
			"datatype t = ¦nil",
			"datatype t = A | ¦true of int",
			"datatype t = A and u = B | ¦false",
			"datatype t = ¦op :: of t",
			"datatype t = ¦ref",
			"datatype t = ¦it",
			"exception ¦nil",
			"exception ¦it of int",
			"exception E and ¦ref of t",
			"exception ¦true = E",
			"exception E = F and ¦op it = G",
			"signature S = sig datatype t = A | ¦nil end",
			"signature S = sig datatype t = ¦it of t end",
			"signature S = sig exception ¦true end",
			"signature S = sig exception E and ¦it of t end",
			"val rec ¦nil = fn x => x",
			"val rec f = fn x => x and ¦ref : t = fn x => x",
			"val rec ¦op :: = fn x => x",
			"fun ¦true x = 1",
			"fun f x = 1 and ¦false x = 2",
			"fun ¦x :: y = 1",
			"fun ¦op :: x = 1",
			"fun ¦ref x y = 1",
			"datatype t = ¦nil | nil", // a constructor has a lower number than its datatype
			"val rec ¦nil = 1",        // and a binding than its declaration
			"exception ¦it and E and E",
			"fun ¦nil x = 1 and nil x = 2",
		},
	} {
		for _, s := range all {
			faultAt(t, s, errno)
		}
	}
}

// P6.1: of several faults that of the node with the lowest number is told; what stands in a node is lower than it.
func TestFirstFault(t *testing.T) {
	for s, errno := range map[string]api.Errno{
		"val x = {a = 1, ¦a = 2} val rec y = 1":                                                api.ErrTwice,
		"val rec ¦y = 1 val x = {a = 1, a = 2}":                                                api.ErrRec,
		"val rec x = {a = 1, ¦a = 2}":                                                          api.ErrTwice,
		"val rec f = fn x => let fun g x = 1 | ¦h x = 2 in g end and f = fn x => x":            api.ErrClause,
		"fun f x = 1 | f y = {a = 1, ¦a = 2} and f z = 3":                                      api.ErrTwice,
		"datatype t = A of {a : t, ¦a : t} | nil | A":                                          api.ErrTwice,
		"datatype t = A of 'a | ¦nil":                                                          api.ErrBound,
		"datatype t = A of ¦'a | A":                                                            api.ErrTyvar,
		"type ('a, ¦'a) t = 'b":                                                                api.ErrTwice,
		"type t = int and t = ¦'a":                                                             api.ErrTyvar,
		"signature S = sig type t type ('a, ¦'a) t end":                                        api.ErrTwice,
		"signature S = sig val x : t val x : t structure A : sig val y : t val ¦y : t end end": api.ErrTwice,
		"local type t = ¦'a in end fun f x = 1 | g x = 1":                                      api.ErrTyvar,
		"structure S = struct\n val x =\n  {a = 1,\n ¦a = 2} end":                              api.ErrTwice,
	} {
		faultAt(t, s, errno)
	}
}

// P6.1: what no restriction forbids.
func TestAllowed(t *testing.T) {
	for _, s := range []string{
		"val {a = {a}, b = {a = x, ...}} = {a = {a = 1}, b = {a = 2}}",
		"val (x, x) = 1 val x = 1 and x = 2 val nil = 1 and true = 2 and it = 3",
		"val rec f : t : u = ((fn x => x) : t) : u and it = fn x => x and g = fn x => x",
		"val rec f = fn x => x val rec f = fn x => x",
		"fun it x = 1 and f x = 2 | f y = 3 and g x y z = 1 | g _ _ _ = 2",
		"fun f x = 1 fun f x y = 2",
		"type 'a t = 'a and 'a u = 'a list and ('a, 'b, ''a) v = int and nil = int and it = int",
		"datatype 'a t = t | A of 'a and 'b u = B of 'b datatype t = A | B",
		"datatype nil = datatype true datatype it = A datatype u = datatype it",
		"exception E and F of 'a and G = E exception E",
		"val x : 'a = y : 'b fun f (x : 'a) : 'b = x exception E of 'c",
		"structure nil = A and it = B and S = struct end signature nil = S and true = T functor nil (it : S) = A",
		"signature S = sig type t val t : t structure t : S end",
		"signature S = sig val nil : t and true : u and it : v type nil and it eqtype ref datatype true = A structure it : S end",
		"signature S = sig datatype t = t exception E type u = int eqtype v and 'a w structure A : sig type t val x : 'a exception E end end",
		"signature S = sig type ('a, 'b) t and ('a, 'b) u eqtype ('b, 'a) v end where type 'a t = 'a where type 'a t = 'a",
		"exception A = nil and B = it",
		"infix nil true val x = it infix it",
		"open nil it",
	} {
		l, root := parsed(t, s)
		if _, _, line, column, e := Derive(l, root); line != 0 || column != 0 || e != api.OK {
			t.Errorf("Derive(%q): %d, %d, %d", s, line, column, e)
		}
	}
}

// P6.1: what is asked of an NCon or an NBind hangs on what it stands in, and on nothing that is not below the root.
func TestContext(t *testing.T) {
	l := []api.Node{
		{Kind: api.TVar, Text: "'a", Line: 1},
		{Kind: api.NCon, Text: "nil", Kids: []int{0}, Line: 2},
		{Kind: api.XVal, Kids: []int{1}, Line: 3},
		{Kind: api.XType, Kids: []int{1}, Line: 4},
		{Kind: api.XExn, Kids: []int{1}, Line: 5},
		{Kind: api.NDatbind, Text: "t", Kids: []int{0, 1}, Line: 6},
		{Kind: api.XData, Kids: []int{5}, Line: 7},
		{Kind: api.GSig, Kids: []int{2}, Line: 8},
		{Kind: api.GSig, Kids: []int{3}, Line: 9},
		{Kind: api.GSig, Kids: []int{2, 4}, Line: 10},
		{Kind: api.GSig, Kids: []int{3, 6}, Line: 11},
	}
	for root, line := range map[int]int{0: 0, 1: 0, 2: 0, 3: 0, 4: 2, 5: 0, 6: 2, 7: 0, 8: 0, 9: 2, 10: 2} {
		want := api.OK
		if line > 0 {
			want = api.ErrBound
		}
		if _, _, got, _, e := Derive(l, root); got != line || e != want {
			t.Errorf("root %d: %d at %d; want %d at %d", root, e, got, want, line)
		}
	}
	binds := []api.Node{
		{Kind: api.PName, Text: "ref", Line: 1}, {Kind: api.PWild}, {Kind: api.NInt, Text: "1"}, {Kind: api.NRule, Kids: []int{1, 2}}, {Kind: api.EFn, Kids: []int{3}},
		{Kind: api.NBind, Kids: []int{0, 4}, Line: 2},
		{Kind: api.DVal, Kids: []int{5}, Line: 3},
		{Kind: api.DRec, Kids: []int{5}, Line: 4},
		{Kind: api.NDecs, Kids: []int{6, 7}, Line: 5},
	}
	for root, line := range map[int]int{5: 0, 6: 0, 7: 2, 8: 2} {
		if _, _, got, _, e := Derive(binds, root); got != line || (e == api.ErrBound) != (line > 0) {
			t.Errorf("root %d: %d at %d; want %d", root, e, got, line)
		}
	}
	// A root that is an NCon has any types; a variable twice among them is none of a specification's.
	vars := []api.Node{{Kind: api.TVar, Text: "'a", Line: 1}, {Kind: api.NCon, Kids: []int{0, 0}, Line: 2}, {Kind: api.XEq, Kids: []int{1}, Line: 3}}
	if _, _, _, _, e := Derive(vars, 1); e != api.OK {
		t.Errorf("an NCon alone: %d", e)
	}
	sameFault(t, vars, 2, 1, 0, api.ErrTwice)
	// PDots has no label, whatever its Text.
	for _, label := range []string{"a", ""} {
		dots := []api.Node{{Kind: api.PWild}, {Kind: api.NField, Text: label, Kids: []int{0}}, {Kind: api.PDots, Text: "a"}, {Kind: api.PRecord, Kids: []int{1, 2}}}
		derived(t, dots, 3)
	}
	// Paths of names that have none in programs: NSame and NCon are bound by their Texts alone.
	same := []api.Node{{Kind: api.EName, Text: "nil"}, {Kind: api.NSame, Text: "it", Path: []string{"A"}, Kids: []int{0}, Line: 6, Column: 7}}
	sameFault(t, same, 1, 6, 7, api.ErrBound)
}

// P6.1: a specification's own names are asked without a signature around it, too.
func TestSpecificationAlone(t *testing.T) {
	for s, kind := range map[string]api.NodeKind{
		"val x : t and ¦x : u":                 api.XVal,
		"type t and ¦'a t":                     api.XType,
		"eqtype t and ¦t":                      api.XEq,
		"type t = u and ¦t = v":                api.XAlias,
		"datatype t = A and ¦t = B":            api.XData,
		"datatype t = A and u = ¦A":            api.XData,
		"exception E and ¦E of t":              api.XExn,
		"structure A : S and B : T and ¦A : T": api.XStr,
	} {
		const around = "signature S = sig "
		ahead, behind, _ := strings.Cut(s, "¦")
		l, _ := parsed(t, around+ahead+behind+" end")
		for i := range l {
			if l[i].Kind == kind {
				sameFault(t, l, i, 1, len(around+ahead)+1, api.ErrTwice)
			}
		}
	}
}

// P6.1: a type variable that does not stand ahead is told by its number, wherever it stands, once or twice.
func TestStrayByNumber(t *testing.T) {
	l := []api.Node{
		{Kind: api.TVar, Text: "'b", Line: 1},
		{Kind: api.TVar, Text: "'c", Line: 2},
		{Kind: api.TVar, Text: "'a", Line: 3},
		{Kind: api.TArrow, Kids: []int{1, 0}, Line: 4},
		{Kind: api.TArrow, Kids: []int{3, 3}, Line: 5},
		{Kind: api.NTybind, Text: "t", Kids: []int{2, 4}, Line: 6},
		{Kind: api.NTybind, Text: "u", Kids: []int{0, 4}, Line: 7},
		{Kind: api.NTybind, Text: "v", Kids: []int{0, 1, 4}, Line: 8},
		{Kind: api.NTybind, Text: "w", Kids: []int{0}, Line: 9},
		{Kind: api.NTybind, Text: "x", Kids: []int{1, 1, 0}, Line: 10},
		{Kind: api.NCon, Text: "A", Kids: []int{2}, Line: 11},
		{Kind: api.NCon, Text: "B", Kids: []int{1}, Line: 12},
		{Kind: api.NDatbind, Text: "y", Kids: []int{0, 10, 11}, Line: 13},
		{Kind: api.NDatbind, Text: "z", Kids: []int{0, 1, 11, 11}, Line: 14},
		{Kind: api.DType, Kids: []int{7, 6}, Line: 15},
	}
	for root, want := range map[int][2]int{5: {1, int(api.ErrTyvar)}, 6: {2, int(api.ErrTyvar)}, 7: {0, 0}, 8: {1, int(api.ErrTyvar)}, 9: {2, int(api.ErrTwice)}, 12: {2, int(api.ErrTyvar)}, 13: {0, 0}, 14: {2, int(api.ErrTyvar)}} {
		if _, _, line, _, e := Derive(l, root); line != want[0] || int(e) != want[1] {
			t.Errorf("root %d: %d at %d; want %v", root, e, line, want)
		}
	}
}

// P6.1, P6.2: what tree.Check refuses, with the place 0, 0.
func TestNoTree(t *testing.T) {
	l, root := parsed(t, "val x = (1, 2) val rec y = 1")
	for _, r := range []int{-1, len(l), math.MinInt, math.MaxInt} {
		sameFault(t, l, r, 0, 0, api.ErrArg)
		sameFault(t, nil, r, 0, 0, api.ErrArg)
		if Bare(l, r) || Bare(nil, r) {
			t.Errorf("Bare with root %d", r)
		}
	}
	sameFault(t, nil, 0, 0, 0, api.ErrArg)
	if Bare(nil, 0) || Bare([]api.Node{}, 0) {
		t.Error("Bare of nothing")
	}
	for i := range l {
		for k := range l[i].Kids {
			for _, bad := range []int{i, root + 1, -1, math.MinInt, math.MaxInt} {
				m := clone(l)
				m[i].Kids[k] = bad
				sameFault(t, m, root, 0, 0, api.ErrTree)
				if Bare(m, root) {
					t.Errorf("Bare with the kid %d of %d", bad, i)
				}
			}
		}
		for _, kind := range []api.NodeKind{0, -1, 5, 77, 101, math.MinInt, math.MaxInt} {
			m := clone(l)
			m[i].Kind = kind
			sameFault(t, m, root, 0, 0, api.ErrTree)
			if Bare(m, root) {
				t.Errorf("Bare with the kind %d", kind)
			}
		}
	}
	one := []api.Node{{Kind: api.NInt}, {Kind: api.ETuple, Kids: []int{0}}}
	sameFault(t, one, 1, 0, 0, api.ErrTree)
}
