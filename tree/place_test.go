package tree

import (
	"math/rand"
	"testing"

	"kiln/api"
)

// P5.1: the nodes of a text, in order, each with its column.
func TestOrderAndPlaces(t *testing.T) {
	for s, want := range map[string]string{
		"":                      "NDecs 0",
		" ; ":                   "NDecs 2",
		" ; val x = 1":          "PName x 8, NInt 1 12, NBind 8, DVal 4, NDecs 2",
		"val x = 1 and (y) = 2": "PName x 5, NInt 1 9, NBind 5, PName y 16, NInt 2 21, NBind 16, DVal 1, NDecs 1",
		"val rec f = g":         "PName f 9, EName g 13, NBind 9, DRec 1, NDecs 1",
		// Infix names: behind both sides, then the tuple, then the application, at the name.
		"val v = a * b + c":     "PName v 5, EName a 9, EName b 13, EName * 11, ETuple 11, EApp 11, EName c 17, EName + 15, ETuple 15, EApp 15, NBind 5, DVal 1, NDecs 1",
		"val v = a :: b :: c":   "PName v 5, EName a 9, EName b 14, EName c 19, EName :: 16, ETuple 16, EApp 16, EName :: 11, ETuple 11, EApp 11, NBind 5, DVal 1, NDecs 1",
		"val v = (a = b) = c":   "PName v 5, EName a 10, EName b 14, EName = 12, ETuple 12, EApp 12, EName c 19, EName = 17, ETuple 17, EApp 17, NBind 5, DVal 1, NDecs 1",
		"val a + b :: c = 1":    "PName a 5, PName b 9, PName + 7, PTuple 7, PApp 7, PName c 14, PName :: 11, PTuple 11, PApp 11, NInt 1 18, NBind 11, DVal 1, NDecs 1",
		"fun a + b = c":         "PName a 5, PName b 9, PTuple 7, NPats 7, EName c 13, NClause + 5, NFun 5, DFun 1, NDecs 1",
		"fun (a) + (b) : t = c": "PName a 6, PName b 12, PTuple 9, NPats 9, TCon t 17, EName c 21, NClause + 5, NFun 5, DFun 1, NDecs 1",
		// What stands first.
		"val v = (f) x y":                          "PName v 5, EName f 10, EName x 13, EApp 10, EName y 15, EApp 10, NBind 5, DVal 1, NDecs 1",
		"val v = (a + b) x":                        "PName v 5, EName a 10, EName b 14, EName + 12, ETuple 12, EApp 12, EName x 17, EApp 12, NBind 5, DVal 1, NDecs 1",
		"val v = a + b : t : u":                    "PName v 5, EName a 9, EName b 13, EName + 11, ETuple 11, EApp 11, TCon t 17, ETyped 11, TCon u 21, ETyped 11, NBind 5, DVal 1, NDecs 1",
		"val v = (a) andalso b orelse c":           "PName v 5, EName a 10, EName b 21, EAnd 10, EName c 30, EOr 10, NBind 5, DVal 1, NDecs 1",
		"val v = (a) handle (x) => b | y => c":     "PName v 5, EName a 10, PName x 21, EName b 27, NRule 21, PName y 31, EName c 36, NRule 31, EHandle 10, NBind 5, DVal 1, NDecs 1",
		"val v = fn a + b => c":                    "PName v 5, PName a 12, PName b 16, PName + 14, PTuple 14, PApp 14, EName c 21, NRule 14, EFn 9, NBind 5, DVal 1, NDecs 1",
		"fun f (x) y = z":                          "PName x 8, PName y 11, NPats 8, EName z 15, NClause f 5, NFun 5, DFun 1, NDecs 1",
		"fun op f x : t = z | f y = z and g z = z": "PName x 10, NPats 10, TCon t 14, EName z 18, NClause f 5, PName y 24, NPats 24, EName z 28, NClause f 22, NFun 5, PName z 36, NPats 36, EName z 40, NClause g 34, NFun 34, DFun 1, NDecs 1",
		// Expressions at their first tokens.
		"val v = (a, (b))":                   "PName v 5, EName a 10, EName b 14, ETuple 9, NBind 5, DVal 1, NDecs 1",
		"val v = ((), (a; b), [], [a])":      "PName v 5, ETuple 10, EName a 15, EName b 18, ESeq 14, EList 22, EName a 27, EList 26, ETuple 9, NBind 5, DVal 1, NDecs 1",
		"val v = ({a = x, 2 = y}, #a, op +)": "PName v 5, EName x 15, NField a 11, EName y 22, NField 2 18, ERecord 10, ESelect a 26, EName + 30, ETuple 9, NBind 5, DVal 1, NDecs 1",
		"val v = let in a; b end":            "PName v 5, NDecs 13, EName a 16, EName b 19, ELet 9, NBind 5, DVal 1, NDecs 1",
		"val v = if a then b else c":         "PName v 5, EName a 12, EName b 19, EName c 26, EIf 9, NBind 5, DVal 1, NDecs 1",
		"val v = while a do raise b":         "PName v 5, EName a 15, EName b 26, ERaise 20, EWhile 9, NBind 5, DVal 1, NDecs 1",
		"val v = case a of x => b":           "PName v 5, EName a 14, PName x 19, EName b 24, NRule 19, ECase 9, NBind 5, DVal 1, NDecs 1",
		"val v = f 1 1.5 \"s\" #\"c\" A.b":   "PName v 5, EName f 9, NInt 1 11, EApp 9, NReal 1.5 13, EApp 9, NString s 17, EApp 9, NChar c 21, EApp 9, EName A.b 26, EApp 9, NBind 5, DVal 1, NDecs 1",
		// Patterns. A name with a type: the PName behind it.
		"val x : t = 1":           "TCon t 9, PName x 5, PTyped 5, NInt 1 13, NBind 5, DVal 1, NDecs 1",
		"val op x : t : u = 1":    "TCon t 12, PName x 5, PTyped 5, TCon u 16, PTyped 5, NInt 1 20, NBind 5, DVal 1, NDecs 1",
		"val A.x : t = 1":         "PName A.x 5, TCon t 11, PTyped 5, NInt 1 15, NBind 5, DVal 1, NDecs 1",
		"val (x) : t = 1":         "PName x 6, TCon t 11, PTyped 6, NInt 1 15, NBind 6, DVal 1, NDecs 1",
		"val x :: y : t = 1":      "PName x 5, PName y 10, PName :: 7, PTuple 7, PApp 7, TCon t 14, PTyped 7, NInt 1 18, NBind 7, DVal 1, NDecs 1",
		"val x as (y) = 1":        "PName y 11, PAs x 5, NInt 1 16, NBind 5, DVal 1, NDecs 1",
		"val op x as y = 1":       "PName y 13, PAs x 5, NInt 1 17, NBind 5, DVal 1, NDecs 1",
		"val x : t as y = 1":      "TCon t 9, PName y 14, PTyped 14, PAs x 5, NInt 1 18, NBind 5, DVal 1, NDecs 1",
		"val {a, 1 = x, ...} = 1": "PName a 6, NField a 6, PName x 13, NField 1 9, PDots 16, PRecord 5, NInt 1 23, NBind 5, DVal 1, NDecs 1",
		"val {a : t, b as x} = 1": "TCon t 10, PName a 6, PTyped 6, NField a 6, PName x 18, PAs b 13, NField b 13, PRecord 5, NInt 1 23, NBind 5, DVal 1, NDecs 1",
		"val {a : t as x} = 1":    "TCon t 10, PName x 15, PTyped 15, PAs a 6, NField a 6, PRecord 5, NInt 1 20, NBind 5, DVal 1, NDecs 1",
		"val op C (_, []) = 1":    "PName C 5, PWild 11, PList 14, PTuple 10, PApp 5, NInt 1 20, NBind 5, DVal 1, NDecs 1",
		"val [1, ()] = 1":         "NInt 1 6, PTuple 9, PList 5, NInt 1 15, NBind 5, DVal 1, NDecs 1",
		// Types.
		"type ('a, 'b) t = ('a) -> 'b * int -> u":         "TVar 'a 7, TVar 'b 11, TVar 'a 20, TVar 'b 27, TCon int 32, TTuple 27, TCon u 39, TArrow 27, TArrow 20, NTybind t 6, DType 1, NDecs 1",
		"type 'a t = (u, {a : v}) w x":                    "TVar 'a 6, TCon u 14, TCon v 22, NField a 18, TRec 17, TCon w 14, TCon x 14, NTybind t 6, DType 1, NDecs 1",
		"datatype 'a t = A of u | op B and v = C":         "TVar 'a 10, TCon u 22, NCon A 17, NCon B 26, NDatbind t 10, NCon C 39, NDatbind v 35, DData 1, NDecs 1",
		"datatype t = datatype A.u":                       "TCon A.u 23, DCopy t 1, NDecs 1",
		"exception op E of t and op F = op A.G and H = I": "TCon t 19, NCon E 11, EName A.G 35, NSame F 25, EName I 47, NSame H 43, DExn 1, NDecs 1",
		// In an exception's binding the `op` behind `=` is not part of the long name; the one that begins it is the binding's first token.
		"exception E = op F":           "EName F 18, NSame E 11, DExn 1, NDecs 1",
		"exception op E = op F":        "EName F 21, NSame E 11, DExn 1, NDecs 1",
		"exception E = op A.F":         "EName A.F 18, NSame E 11, DExn 1, NDecs 1",
		"exception E = F and G = op F": "EName F 15, NSame E 11, EName F 28, NSame G 21, DExn 1, NDecs 1",
		"local in end":                 "NDecs 7, NDecs 10, DLocal 1, NDecs 1",
		"local ; in val x = 1 end":     "NDecs 7, PName x 16, NInt 1 20, NBind 16, DVal 12, NDecs 12, DLocal 1, NDecs 1",
		"open A B.C":                   "SName A 6, SName B.C 8, DOpen 1, NDecs 1",
		"infix 5 a b; nonfix c":        "PName a 9, PName b 11, DFix infix 5 1, PName c 21, DFix nonfix 14, NDecs 1",
		// Modules. A signature ahead of a structure is made ahead of it.
		"structure S = struct end and T = A.B : G":                 "NDecs 22, SStruct 15, NStr S 11, SName A.B 34, GName G 40, STrans 34, NStr T 30, DStr 1, NDecs 1",
		"structure S :> G = A : H":                                 "GName G 16, SName A 20, GName H 24, STrans 20, SOpaque 20, NStr S 11, DStr 1, NDecs 1",
		"structure S = F (A)":                                      "SName A 18, SApp F 15, NStr S 11, DStr 1, NDecs 1",
		"structure S = F ()":                                       "NDecs 18, SStruct 18, SApp F 15, NStr S 11, DStr 1, NDecs 1",
		"structure S = F ( ; open A)":                              "SName A 26, DOpen 21, NDecs 19, SStruct 19, SApp F 15, NStr S 11, DStr 1, NDecs 1",
		"structure S = let open A in B :> G end":                   "SName A 24, DOpen 19, NDecs 19, SName B 29, GName G 34, SOpaque 29, SLet 15, NStr S 11, DStr 1, NDecs 1",
		"functor F (X : G) : H = A":                                "GName G 16, NSig X 12, GName H 21, SName A 25, STrans 25, NFct F 9, DFct 1, NDecs 1",
		"signature S = G where type 'a A.t = 'a where type u = v":  "GName G 15, TVar 'a 28, TVar 'a 37, NWhere A.t 23, GWhere 15, TCon v 55, NWhere u 46, GWhere 15, NSig S 11, DSig 1, NDecs 1",
		"signature S = sig val x : t; type ('a) t eqtype 'a u end": "TCon t 27, NCon x 23, XVal 19, TVar 'a 36, NCon t 35, XType 30, TVar 'a 49, NCon u 49, XEq 42, GSig 15, NSig S 11, DSig 1, NDecs 1",
		"signature S = sig type 'a t = u datatype v = A exception E of w structure B : G end": "TVar 'a 24, TCon u 31, NTybind t 24, XAlias 19, NCon A 46, NDatbind v 42, XData 33, TCon w 63, NCon E 58, XExn 48, GName G 79, NSig B 75, XStr 65, GSig 15, NSig S 11, DSig 1, NDecs 1",
	} {
		l, _ := parsed(t, s)
		if got := inOrder(l); got != want {
			t.Errorf("Parse(%q) =\n %s; want\n %s", s, got, want)
		}
	}
}

// P5.1: kids are ahead of what they stand in, each node is a kid of just one, and lines are told as columns are.
func TestLines(t *testing.T) {
	l, root := parsed(t, "val x =\n  1 +\n 2\n\nval y = 3")
	for i, want := range [][2]int{{1, 5}, {2, 3}, {3, 2}, {2, 5}, {2, 5}, {2, 5}, {1, 5}, {1, 1}, {5, 5}, {5, 9}, {5, 5}, {5, 1}, {1, 1}} {
		if l[i].Line != want[0] || l[i].Column != want[1] {
			t.Errorf("%s is at %d, %d; want %v", label(l[i]), l[i].Line, l[i].Column, want)
		}
	}
	if root != 12 || len(l) != 13 {
		t.Errorf("root %d of %d", root, len(l))
	}
	sameFault(t, scan(t, "val x =\n  1 +\n\n end"), 4, 2, api.ErrSyntax)
	sameFault(t, scan(t, "val x =\n  1 +\n\n"), 2, 5, api.ErrSyntax)
	sameFault(t, scan(t, "infix 5 ##\nval x = 1 ## 2\n :: 3"), 3, 2, api.ErrFixity)
}

// P5.5: the tree hangs on tokens alone: with other places it is the same, but for places; a fault is at the same token.
func TestOtherPlaces(t *testing.T) {
	r := rand.New(rand.NewSource(1))
	for _, s := range append(samples(), "val x = 1 end", "val x = (1, 2", "infix 5 ## val x = 1 ## 2 :: 3", "val", "1") {
		tokens := scan(t, s)
		a, root, line, column, e := Parse(tokens)
		other := moved(tokens, r)
		b, otherRoot, otherLine, otherColumn, otherErr := Parse(other)
		if e != otherErr || root != otherRoot || len(a) != len(b) {
			t.Fatalf("Parse(%q): %d, %d with other places; was %d, %d", s, otherRoot, otherErr, root, e)
		}
		if e == api.OK && !Same(a, root, b, otherRoot) {
			t.Errorf("Parse(%q): another tree with other places", s)
		}
		for i := range tokens { // where a token's place went, its nodes' and its fault's went, too
			from, to := tokens[i], other[i]
			if e != api.OK && from.Line == line && from.Column == column && (to.Line != otherLine || to.Column != otherColumn) {
				t.Errorf("Parse(%q): fault at %d, %d; want %d, %d", s, otherLine, otherColumn, to.Line, to.Column)
			}
			for k := range a {
				if a[k].Line == from.Line && a[k].Column == from.Column && (b[k].Line != to.Line || b[k].Column != to.Column) {
					t.Errorf("Parse(%q): %s at %d, %d; want %d, %d", s, label(a[k]), b[k].Line, b[k].Column, to.Line, to.Column)
				}
			}
		}
	}
}
