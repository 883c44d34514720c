package tree

import (
	"strings"
	"testing"

	"kiln/api"
)

// P5.1: the chapter's faults.
func TestExampleFaults(t *testing.T) {
	faultAt(t, "infix 5 ## val a = 1 ## 2 :: 3", 27, api.ErrFixity)
	faultAt(t, "val = 1", 5, api.ErrSyntax)
	faultAt(t, "val x = ", 7, api.ErrSyntax)
}

// P5.1: each choice where two begin alike is taken by the tokens that the chapter names, and kept to. The fault is at the token behind the bar.
func TestChoices(t *testing.T) {
	for _, s := range []string{
		// A datatype is a copy by its name, `=` and `datatype`.
		"datatype t = datatype u ¦and v = A",
		"datatype t = datatype u ¦| A",
		"datatype t = datatype ¦'a u",
		"datatype 'a t = ¦datatype u",
		"datatype ('a) t = ¦datatype u",
		"datatype t = A and u = ¦datatype v",
		"datatype ¦A.t = datatype u",
		"datatype t = A | ¦datatype",
		"signature S = sig datatype t = ¦datatype u end",
		// A clause with an infix name.
		"fun f ¦= 1",
		"fun f x ¦+ y = 1",
		"fun f + y ¦z = 1",
		"fun f + ¦= 1",
		"fun f + ¦+ x = 1",
		"fun f + C ¦x = 1",
		"fun ¦+ x = 1",
		"fun ¦= x = 1",
		"fun op ¦A.f x = 1",
		"fun op ¦1 x = 1",
		"fun op + ¦= 1",
		"fun op f ¦+ x = 1",
		"fun A.f ¦x = 1",
		"fun 1 ¦x = 1",
		"fun 1 ¦= x",
		"fun (x + y) ¦z = 1",
		"fun (f x) ¦= 1",
		"fun _ ¦A.+ x = 1",
		"fun f A.+ ¦+ x = 1",
		"fun x + ¦1.5 = 1",
		// An application of a functor.
		"structure S = A.F ¦(B)",
		"structure S = A.F ¦()",
		"structure S = F (A ¦val x = 1)",
		"structure S = F (A¦; val x = 1)",
		"structure S = F (type t = u ¦1)",
		"structure S = F (; ¦A)",
		"structure S = F (¦1)",
		"structure S = F (¦sig end)",
		"structure S = F (A) ¦(B)",
		"structure S = F () ¦()",
		// An `as` pattern.
		"val x : t : u ¦as y = 1",
		"val A.x ¦as y = 1",
		"val A.x : t ¦as y = 1",
		"val (x) ¦as y = 1",
		"val _ : t ¦as y = 1",
		"val C x ¦as y = 1",
		"val x + y ¦as z = 1",
		"val ¦+ as y = 1",
		"val ¦+ : t = 1",
		"val x as ¦= 1",
		"val x as y as ¦= 1",
		"val x : t as ¦+ = 1",
		"val op ¦as x = 1",
		"val op ¦: t = 1",
		// `type` in a spec, with `=` or without.
		"signature S = sig type t = int and u ¦end",
		"signature S = sig type t = int and u ¦and v = int end",
		"signature S = sig type t and u ¦= int end",
		"signature S = sig eqtype t ¦= int end",
		// A label and a name in a field.
		"val {a = ¦, b} = 1",
		"val {1¦} = 1",
		"val {1 ¦: t} = 1",
		"val {1 ¦as x} = 1",
		"val {a : t ¦: u} = 1",
		"val {a : t ¦= x} = 1",
		"val {a as x ¦= y} = 1",
		"val {¦op a} = 1",
		// What is behind `#` is its label.
		"val x = # ¦A.b",
		"val x = # ¦(a)",
		"val x = # ¦=",
		"val x = # ¦op a",
	} {
		faultBehind(t, s)
	}
}

// P5.1: each line of the grammar with a token that no choice has there.
func TestSyntax(t *testing.T) {
	for _, s := range []string{
		// program, decs, dec
		"¦1", "¦x", "¦end", "¦in", "¦)", "¦rec f = 1", "¦eqtype t", "¦include S", "¦sharing", "¦abstype t = A", "¦let in end", "¦and", "; ¦op",
		"val x = 1 ¦end", "val x = 1 ¦)", "val x = 1 ¦in", "val x = 1 ¦=>", "val x = 1; ¦1",
		"val ¦rec1", "val ¦val x = 1", "val x y ¦z = 1", "val x ¦1.5 = 1", "val x = 1 and ¦= 2", "val x = 1 and ¦rec y = 2", "val rec ¦rec x = 1", "val x = ¦val y", "val ¦1.5 = 1",
		"fun f x = 1 | ¦= 1", "fun f x = 1 and ¦= 1", "fun f x : ¦= 1", "fun f x : t ¦: u = 1", "fun f x ¦| g", "fun f x = ¦| g", "fun ¦rec f x = 1", "fun f x ¦as y = 1",
		"type ¦= t", "type t ¦and u = v", "type t = ¦= u", "type ¦A.t = u", "type (¦t) u = v", "type (¦) t = u", "type 'a ¦'b t = u", "type t = u and ¦= v", "type 'a ¦= t", "type ('a, ¦) t = u", "type ('a ¦'b) t = u",
		"datatype ¦= A", "datatype t ¦of u", "datatype t = ¦A.B", "datatype t = ¦| A", "datatype t = A of ¦| B", "datatype t = op ¦= | B", "datatype t = op ¦op A", "datatype t = A ¦t", "datatype t = A and ¦A.u = B", "datatype t = ¦1", "datatype t = A ¦withtype u = v",
		"exception ¦of t", "exception ¦A.E", "exception E ¦t", "exception E of ¦= F", "exception E = ¦of t", "exception E = op ¦=", "exception op ¦= of t", "exception E = F ¦of t", "exception E of t ¦= F", "exception E and ¦and", "exception ¦'a",
		"local ¦end", "local in ¦in end", "local val x = 1 ¦end", "local in val x = 1 ¦val1", "local ¦1 in end",
		"open ¦val x = 1", "open ¦'a", "open A ¦1", "open A ¦= B", "open ¦;",
		"infix ¦A.b", "infix ¦10 a", "infix ¦~1 a", "infix ¦00 a", "infix ¦0x1 a", "infix 1 ¦2 a", "infix ¦=", "infix 5 ¦= a", "infix 5 ¦val x = 1", "infix a ¦5", "infix a ¦A.b", "infixr ¦1.5 a", "infixr 5 ¦;", "nonfix ¦5 a", "nonfix ¦=", "nonfix ¦;", "nonfix a ¦=", "infix ¦op a", "infix ¦'a",
		"structure ¦A.S = T", "structure S ¦T", "structure S ¦(", "structure S = ¦= T", "structure S : ¦= T", "structure S : G ¦: H = T", "structure S :> ¦A.G = T", "structure S = T and ¦and", "structure S = T : ¦struct end", "structure S = ¦sig end", "structure S = ¦(T)", "structure S = struct ¦in", "structure S = struct val x = 1 ¦)", "structure S = let ¦end", "structure S = let in ¦end", "structure S = let in T ¦in", "structure S = let in T¦; U end", "structure S = ¦1",
		"signature ¦A.S = T", "signature S ¦: T", "signature S = ¦A.T", "signature S = ¦struct end", "signature S = T ¦: U", "signature S = T and ¦=", "signature S = T where ¦t = u", "signature S = T where type ¦= u", "signature S = T where type t ¦: u", "signature S = T where type t = u and ¦type v = w", "signature S = T and ¦type v = w", "signature S = T where type 'a ¦'b t = u", "signature S = ¦(T)",
		"functor ¦A.F (X : G) = T", "functor F ¦X : G = T", "functor F (¦A.X : G) = T", "functor F (X ¦= G) = T", "functor F (X ¦:> G) = T", "functor F (X : G ¦= T", "functor F (X : G) ¦T", "functor F (X : G) : ¦= T", "functor F (¦) = T", "functor F (¦val x : t) = T", "functor F (X : G) ¦(Y : H) = T", "functor F (X : G) = T and ¦(",
		// spec
		"signature S = sig ¦fun f x = 1 end", "signature S = sig ¦1 end", "signature S = sig ¦include T end", "signature S = sig ¦local in end end", "signature S = sig ¦open A end", "signature S = sig ¦infix a end", "signature S = sig val x : t ¦)", "signature S = sig val ¦A.x : t end", "signature S = sig val ¦op x : t end", "signature S = sig val x ¦= t end", "signature S = sig val x : t and ¦end", "signature S = sig val ¦= : t end", "signature S = sig type ¦end", "signature S = sig type t = ¦end", "signature S = sig eqtype ¦A.t end", "signature S = sig exception ¦op E end", "signature S = sig exception E ¦= F end", "signature S = sig exception E of ¦end", "signature S = sig structure T ¦= U end", "signature S = sig structure T ¦:> U end", "signature S = sig structure ¦A.T : U end", "signature S = sig structure T : ¦A.U end", "signature S = sig type t ¦where type t = u end", "signature S = sig ¦and", "signature S = sig ¦signature T = U end",
		// exp
		"val x = ¦=", "val x = ¦+", "val x = ¦* 1", "val x = ¦:: y", "val x = ¦_", "val x = ¦'a", "val x = ¦then", "val x = ¦)", "val x = ¦|", "val x = ¦handle", "val x = ¦andalso y", "val x = ¦sig end", "val x = ¦struct end",
		"val x = a + ¦+ b", "val x = a + ¦= b", "val x = a = ¦= b", "val x = a + ¦if b then c else d", "val x = a + ¦fn b => c", "val x = a ¦if b then c else d", "val x = f ¦fn a => b", "val x = a + ¦raise b", "val x = a + ¦; b", "val x = a orelse ¦andalso b", "val x = a andalso ¦orelse b", "val x = a andalso ¦handle b => c", "val x = a orelse ¦)", "val x = a handle ¦=> b", "val x = a handle b ¦= c", "val x = a handle b => ¦|", "val x = a handle b => c | ¦|", "val x = a handle ¦| b => c", "val x = a : ¦= b", "val x = a : t b ¦1", "val x = a : ¦1",
		"val x = if ¦then b else c", "val x = if a ¦else c", "val x = if a then ¦else c", "val x = if a then b ¦end", "val x = if a then b else ¦val y = 1", "val x = if a ¦of b", "val x = while ¦do b", "val x = while a ¦then b", "val x = while a do ¦)", "val x = case ¦of b => c", "val x = case a b ¦=> c", "val x = case a of ¦=> c", "val x = case a of b ¦= c", "val x = case a of ¦| b => c", "val x = fn ¦=> b", "val x = fn a ¦= b", "val x = fn a b ¦c => d", "val x = fn a => b | ¦val y = 1", "val x = raise ¦handle a => b", "val x = raise ¦=> b",
		"val x = # ¦01", "val x = # ¦0", "val x = # ¦~1", "val x = # ¦0x1", "val x = # ¦1.5", "val x = # ¦\"a\"", "val x = # ¦'a", "val x = {¦,}", "val x = {a ¦: t}", "val x = {a = ¦}", "val x = {a = 1 b ¦...}", "val x = {a = 1, ¦}", "val x = {¦A.a = 1}", "val x = {¦...}", "val x = {¦0 = 1}", "val x = {¦~1 = 1}", "val x = {a¦}", "val x = {a = 1¦; b = 2}", "val x = {a = 1 ¦]",
		"val x = (¦, a)", "val x = (a, ¦)", "val x = (a; ¦)", "val x = (¦; a)", "val x = (a, b¦; c)", "val x = (a; b¦, c)", "val x = (a ¦]", "val x = (¦val y = 1)", "val x = (a, b ¦end", "val x = [¦, a]", "val x = [a, ¦]", "val x = [a¦; b]", "val x = [a ¦)", "val x = [¦)", "val x = let ¦1 in a end", "val x = let ¦end", "val x = let in ¦end", "val x = let in a; ¦end", "val x = let in a ¦, b end", "val x = let in a ¦)", "val x = op ¦1", "val x = op ¦A.b", "val x = op ¦op", "val x = op ¦:",
		// pat
		"val ¦#1 = 1", "val ¦'a = 1", "val ¦let in x end = 1", "val ¦if = 1", "val ¦) = 1", "val x + ¦= 1", "val x + ¦+ y = 1", "val x :: ¦:: y = 1", "val C x ¦y = 1", "val C x ¦A.y = 1", "val 1 ¦x = 1", "val (x) ¦y = 1", "val C op = ¦1", "val x : ¦= 1", "val x = ¦= 1", "val (¦, x) = 1", "val (x, ¦) = 1", "val (x¦; y) = 1", "val (x ¦] = 1", "val [x, ¦] = 1", "val [¦, x] = 1", "val [x ¦) = 1", "val {¦, a} = 1", "val {a, ¦} = 1", "val {a ¦b} = 1", "val {... ¦a} = 1", "val {¦A.a} = 1", "val {a = x ¦)", "val {¦01 = x} = 1", "val {¦=} = 1", "val {a : ¦as x} = 1", "val {a as ¦} = 1", "val {... ¦, ...} = 1", "val {...¦, a} = 1", "val ¦1.5 = 1", "val ¦... = 1", "¦fn x",
		// ty
		"type t = ¦*", "type t = ¦* u", "type t = u * ¦* v", "type t = u * ¦-> v", "type t = u -> ¦* v", "type t = u -> ¦-> v", "type t = ¦-> u", "type t = ¦1", "type t = ¦op u", "type t = (¦)", "type t = (u ¦; v)", "type t = (u, ¦) v", "type t = (u, v) ¦* w", "type t = (u, v) ¦-> w", "type t = (u, v) ¦val x = 1", "type t = (u, v) ¦'a", "type t = u ¦'a", "type t = u ¦(v)", "type t = u ¦{}", "type t = {a ¦= u}", "type t = {¦, a : u}", "type t = {a : u, ¦}", "type t = {a : ¦}", "type t = {a : u b ¦: v}", "type t = {¦A.a : u}", "type t = {¦0 : u}", "type t = {¦...}", "type t = ¦[u]", "type t = ¦_", "type t = ¦=", "type t = u ¦: v",
	} {
		if strings.Count(s, "¦") != 1 {
			t.Errorf("%q has not one bar", s)
		}
		faultBehind(t, s)
	}
}

// P5.1: of two faults in one list of tokens the first one is told, whichever they are.
func TestFaultOrder(t *testing.T) {
	faults := []struct {
		s      string
		column int
		errno  api.Errno
	}{
		{"val = 1", 5, api.ErrSyntax},
		{"infix 5 ## val a = 1 ## 2 :: 3", 27, api.ErrFixity},
		{"val v = " + strings.Repeat("(", 999) + "a" + strings.Repeat(")", 999), 8 + 1000, api.ErrDeep},
		{"val v = f" + strings.Repeat(" x", 1000), 9, api.ErrDeep},
	}
	for _, a := range faults {
		for _, b := range faults {
			faultAt(t, a.s+" "+b.s, a.column, a.errno)
			faultAt(t, "val x = 1; "+a.s+" "+b.s, 11+a.column, a.errno)
		}
	}
	many := strings.Repeat("val x = 1 ", 65535) // 262140 nodes
	for _, f := range faults {
		faultAt(t, many+"open A B C D E "+f.s, 655350+14, api.ErrMany)
		faultAt(t, f.s+" "+many+many[:100], f.column, f.errno)
	}
}
