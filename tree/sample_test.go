package tree

// samples are programs that have all kinds of nodes.
func samples() []string {
	return []string{
		"",
		";",
		"val x = 1 + 2 * 3",
		"infix 6 ++ infixr 5 ^^ nonfix o val a = 1 ++ 2 ^^ 3 = o 4",
		`val (a, [b, 1], {c = "s", d, e : int as f, g : t, ...}, C #"x", _ :: () :: [], {}, op + , op = : t, y as z) = (1.5, x)`,
		"fun f 0 = 1 | f n : int = n * f (n - 1) and x ++ y = y and (a, b) + c : t = c and op - (x, y) = z",
		"val rec f = fn x => x | _ => raise E x handle A.E => 1 | F y => 2 and g = f",
		"val x = if a andalso b orelse c then while d do e else case f of g => h | i => (j; k; l)",
		"val x = let val y = 1; fun z w = 2 in y; (z : int : t, #1 y, #a, {a = 1, 2 = [], b = [x, y]}, {}, ()) end",
		"type t = int and 'a u = 'a list and ('a, 'b) v = ('a, 'b * {a : int, 1 : {}}) w -> (t -> u) -> A.t",
		"datatype 'a t = A | B of int * 'a t | op :: of u and v = C datatype w = datatype A.t",
		"exception E and F of int and G = A.H and op + = op -",
		"local open A B.C infix 3 % in val a = 1 % 2 end local in end",
		"structure S = struct val x = 1 structure T = A.B end and T : G = F (A) : H and U :> sig end = G (val x = 1) and V = F () and W = let open A in B :> G end",
		"signature S = sig val x : int and y : 'a; type t and 'a u type v = t and ('a, 'b) w = 'a eqtype e and 'a g datatype d = A | B of t exception E and F of t structure A : S and B : sig end end where type 'a t = int where type A.B.t = u",
		"functor F (X : S) = struct open X end and G (Y : sig type t end where type t = int) : H = F (Y) and H (Z : S) :> T = Z",
	}
}
