package tree

import (
	"slices"
	"strings"
	"testing"

	"kiln/api"
)

// P5.1: ErrDeep, where with the phrase that begins at the bar more than MaxDepth phrases are open: each text stands in so many parentheses that the phrase is the last one that may be, and then one too many. (How many more are open there than at the text's beginning is counted by hand.)
func TestOpenPhrases(t *testing.T) {
	for marked, more := range map[string]int{
		"(¦a)":                                            1,
		"((¦a))":                                          2,
		"f (x) (y) ((¦a))":                                2, // what has ended is not open
		"(a, (¦b))":                                       2,
		"(a; (¦b))":                                       2,
		"[a, (¦b)]":                                       2,
		"{a = 1, b = (¦c)}":                               2,
		"if ¦a then b else c":                             1,
		"if a then (¦b) else c":                           2,
		"if a then b else (¦c)":                           2,
		"while a do (¦b)":                                 2,
		"raise ¦a":                                        1,
		"a orelse b andalso raise ¦c":                     1,
		"case ¦a of b => c":                               1,
		"case a of (¦b) => c":                             2,
		"case a of b => (¦c)":                             2,
		"fn ¦a => b":                                      1,
		"fn (¦a) => b":                                    2,
		"fn (a, (¦b)) => c":                               3,
		"fn [¦a] => b":                                    2,
		"fn C (¦a) => b":                                  2,
		"fn a as ¦b => c":                                 2,
		"fn a as b as ¦c => d":                            3,
		"fn a : ¦t => b":                                  2,
		"fn a : ¦t as b => c":                             2,
		"fn a : t as (¦b) => c":                           3,
		"fn {a = ¦b} => c":                                2,
		"fn {a : ¦t} => b":                                2,
		"fn {a as ¦b} => c":                               2,
		"a handle ¦b => c":                                1,
		"a handle b => (¦c)":                              2,
		"a : ¦t":                                          1,
		"a : t : (¦u)":                                    2,
		"a : t -> ¦u":                                     2,
		"a : t -> u -> ¦v":                                3,
		"a : t * u list -> ¦v":                            2,
		"a : (¦t)":                                        2,
		"a : (t, (¦u)) v":                                 3,
		"a : {l : ¦t}":                                    2,
		"let in ¦a end":                                   1,
		"let in a; (¦b) end":                              2,
		"let ¦val a = 1 in b end":                         1,
		"let val ¦a = 1 in b end":                         2,
		"let val a = (¦1) in b end":                       3,
		"let val a = 1 val b = (¦2) in c end":             3,
		"let ¦infix a in b end":                           1,
		"let fun f a b = ¦c in d end":                     2, // no atpat is a pat
		"let fun f (¦a) = b in c end":                     2,
		"let fun (¦a) + b = c in d end":                   2,
		"let fun f a : ¦t = b in c end":                   2,
		"let type t = ¦u in a end":                        2,
		"let datatype t = A of ¦u in a end":               2,
		"let ¦datatype t = datatype u in a end":           1,
		"let exception E of ¦t in a end":                  2,
		"let local ¦val a = 1 in end in b end":            2,
		"let local in ¦open A end in b end":               2,
		"let structure S = ¦A in a end":                   2,
		"let structure S : ¦G = A in a end":               2,
		"let structure S : G = F (¦A) in a end":           3,
		"let structure S = A : ¦G in a end":               3,
		"let structure S = A : G :> sig ¦; end in a end":  4,
		"let structure S = F (¦A) in a end":               3,
		"let structure S = F (¦val a = 1) in b end":       3, // no str
		"let structure S = struct ¦open A end in a end":   3,
		"let structure S = let ¦open A in B end in a end": 3,
		"let structure S = let in ¦B end in a end":        3,
		"let signature S = ¦G in a end":                   2,
		"let signature S = G where type t = ¦u in a end":  3,
		"let signature S = G where type t = u where type v = (¦w) in a end": 4,
		"let signature S = sig ¦; end in a end":                             3, // `;` is a spec
		"let signature S = sig ¦type t end in a end":                        3,
		"let signature S = sig val a : ¦t end in b end":                     4,
		"let signature S = sig type t = ¦u end in a end":                    4,
		"let signature S = sig datatype t = A of ¦u end in a end":           4,
		"let signature S = sig exception E of ¦t end in a end":              4,
		"let signature S = sig structure A : ¦G end in a end":               4,
		"let functor F (X : ¦G) = A in a end":                               2,
		"let functor F (X : G) : H where type t = ¦u = A in a end":          3,
		"let functor F (X : G) = F (¦A) in a end":                           3,
	} {
		s := strings.Replace(marked, "¦", "", 1)
		at := strings.Index(marked, "¦") + 1
		for _, beyond := range []int{0, 1} {
			within := api.MaxDepth - 2 - more + beyond // a dec and an exp are open without any of them
			source := "val v = " + strings.Repeat("(", within) + s + strings.Repeat(")", within)
			column := len("val v = ") + within + at
			if beyond == 1 {
				faultAt(t, source, column, api.ErrDeep)
				continue
			}
			if _, _, _, c, e := Parse(scan(t, source)); e == api.ErrDeep && c <= column || e == api.ErrSyntax {
				t.Errorf("Parse(%q) within %d: %d at %d", s, within, e, c-len("val v = ")-within)
			}
		}
	}
}

// P5.1: MaxDepth phrases open are fine to the end, one more are not, and are told at the token where that one begins, however many there are.
func TestManyOpen(t *testing.T) {
	open := func(n int) string {
		return "val v = " + strings.Repeat("(", n) + "a" + strings.Repeat(")", n)
	}
	sameDecs(t, open(api.MaxDepth-2), "DVal(NBind(PName v, EName a))")
	for _, n := range []int{api.MaxDepth - 1, api.MaxDepth, 5 * api.MaxDepth, 100000} {
		faultAt(t, open(n), len("val v = ")+api.MaxDepth, api.ErrDeep)
		faultAt(t, "val v = "+strings.Repeat("(", n)+"a end", len("val v = ")+api.MaxDepth, api.ErrDeep)
	}
	// A token that begins no phrase is ErrSyntax, though one more would be too many.
	deep := "val v = " + strings.Repeat("(", api.MaxDepth-1)
	for _, s := range []string{"end", "+", "=>", "val", "]", "'a"} {
		faultAt(t, deep+s, len(deep)+1, api.ErrSyntax)
	}
	faultAt(t, deep, len(deep), api.ErrSyntax)
	for marked, more := range map[string]int{ // the phrase that is wanted at the bar would be the first too many
		"let val ¦+ = 1 in a end":                       2,
		"let val x : ¦* = 1 in a end":                   3,
		"let structure S = ¦sig end in a end":           2,
		"let structure S = ¦(A) in a end":               2,
		"let signature S = ¦A.G in a end":               2,
		"let signature S = ¦struct end in a end":        2,
		"let ¦eqtype t in a end":                        1,
		"let signature S = sig ¦local in end end in a":  3,
		"let signature S = sig val x : ¦; end in a end": 4,
		"let structure S : ¦A.G = A in a end":           2,
		"fn ¦1.5 => a":                                  1,
		"fn ¦... => a":                                  1,
		"raise ¦_":                                      1,
		"raise ¦= a":                                    1,
		"a : ¦op":                                       1,
	} {
		within := api.MaxDepth - 2 - more + 1
		source := "val v = " + strings.Repeat("(", within) + strings.Replace(marked, "¦", "", 1)
		faultAt(t, source, len("val v = ")+within+strings.Index(marked, "¦")+1, api.ErrSyntax)
	}
	sameDecs(t, deep+")"+strings.Repeat(")", api.MaxDepth-2), "DVal(NBind(PName v, ETuple))")
	faultAt(t, "val v = end"+strings.Repeat("(", 2*api.MaxDepth), 9, api.ErrSyntax)
	for _, n := range []int{api.MaxDepth - 2, api.MaxDepth - 1} {
		s := "val " + strings.Repeat("(", n) + "+"
		faultAt(t, s, len(s), api.ErrSyntax)
		s = "type t = " + strings.Repeat("( ", n) + "*"
		faultAt(t, s, len(s), api.ErrSyntax)
	}
}

// P5.1: a node of depth MaxDepth, and one more, told at the node's place.
func TestNodeDepth(t *testing.T) {
	chain := func(n int) string { return "; val v = f" + strings.Repeat(" x", n) }
	l, root := parsed(t, chain(api.MaxDepth-4))
	if depth := depthOf(l, root); depth != api.MaxDepth || Check(l, root) != api.OK {
		t.Errorf("depth %d", depth)
	}
	faultAt(t, chain(api.MaxDepth-3), 1, api.ErrDeep)  // the NDecs
	faultAt(t, chain(api.MaxDepth-2), 3, api.ErrDeep)  // the DVal
	faultAt(t, chain(api.MaxDepth-1), 7, api.ErrDeep)  // the NBind
	faultAt(t, chain(api.MaxDepth), 11, api.ErrDeep)   // the last EApp
	faultAt(t, chain(5*api.MaxDepth), 11, api.ErrDeep) // an EApp on the way
	faultAt(t, chain(api.MaxDepth)+" =>", 11, api.ErrDeep)
	faultAt(t, chain(api.MaxDepth-3)+" =>", 1, api.ErrDeep)
	faultAt(t, "val a = end"+chain(api.MaxDepth), 9, api.ErrSyntax)
	faultAt(t, "val v = (=> "+strings.Repeat(" x", api.MaxDepth), 10, api.ErrSyntax)
	// From the right: each name makes two nodes more, the last ones first.
	right := func(n int) string { return "val v = 1" + strings.Repeat(" :: 1", n) }
	parsed(t, right(498))
	faultAt(t, right(499), 1, api.ErrDeep)                // the DVal
	faultAt(t, right(500), 11, api.ErrDeep)               // the EApp of the first name
	faultAt(t, right(501), 11+5, api.ErrDeep)             // of the second one
	faultAt(t, right(600), 11+5*100, api.ErrDeep)         // of the 500th from the right
	faultAt(t, right(600)+" ::", 11+5*600, api.ErrSyntax) // nothing is put together yet
	faultAt(t, "val v = 1"+strings.Repeat(" + 1", 600), 11+4*499, api.ErrDeep)
	faultAt(t, "type t = u"+strings.Repeat(" list", 1000), 10, api.ErrDeep)
	faultAt(t, "val x"+strings.Repeat(" : t", 1000)+" = 1", 5, api.ErrDeep)
	faultAt(t, "structure S = A"+strings.Repeat(" : G", 1000), 15, api.ErrDeep)
	faultAt(t, "signature S = A"+strings.Repeat(" where type t = u", 1000), 15, api.ErrDeep)
}

// depthOf is a node's depth.
func depthOf(l []api.Node, i int) int {
	depth := 1
	for _, k := range l[i].Kids {
		depth = max(depth, 1+depthOf(l, k))
	}
	return depth
}

// P5.1: MaxNodes nodes, and one more, told at the node's place; of one that is too deep, too, ErrDeep.
func TestManyNodes(t *testing.T) {
	const dec = "val x = 1\n" // four nodes
	decs := scan(t, strings.Repeat(dec, 65535))
	behind := func(lines int, s string) []api.Token {
		return append(slices.Clone(decs[:4*lines]), scan(t, strings.Repeat("\n", lines)+s)...)
	}
	l, root, _, _, e := Parse(behind(65535, "open A B"))
	if e != api.OK || len(l) != api.MaxNodes || root != api.MaxNodes-1 || Check(l, root) != api.OK {
		t.Errorf("%d nodes, root %d, %d", len(l), root, e)
	}
	sameFault(t, behind(65535, "open A B C"), 1, 1, api.ErrMany)                 // the NDecs
	sameFault(t, behind(65535, "open A B C D"), 65536, 1, api.ErrMany)           // the DOpen
	sameFault(t, behind(65535, "open A B C D E"), 65536, 14, api.ErrMany)        // the last SName
	sameFault(t, behind(65535, "open A B C D E F end"), 65536, 14, api.ErrMany)  // one ahead of it, and of a fault
	sameFault(t, behind(65535, "open A B C end"), 1, 1, api.ErrMany)             // the NDecs ends ahead of the fault
	sameFault(t, behind(65535, "open A B C D = E F"), 65536, 1, api.ErrMany)     // so does the DOpen
	sameFault(t, behind(65535, "open A = B C D E F G"), 65536, 8, api.ErrSyntax) // a fault ahead of it
	sameFault(t, behind(65535, strings.Repeat(dec, 9)), 65537, 5, api.ErrMany)   // the second of these PNames

	chain := "val v = f" + strings.Repeat(" x", 1000) // its last EApp is too deep, and has 2001 nodes ahead of it
	sameFault(t, behind(65035, "open A;"+chain), 65036, 7+9, api.ErrDeep)
	sameFault(t, behind(65035, "open A B;"+chain), 65036, 9+9, api.ErrDeep)
	sameFault(t, behind(65035, "open A B C;"+chain), 65036, 11+9+2*1000, api.ErrMany)
}

// P5.1: many tokens without nodes, and long lists.
func TestManyTokens(t *testing.T) {
	sameDecs(t, strings.Repeat(";", 300000)+"val x = 1"+strings.Repeat(";", 300000), "DVal(NBind(PName x, NInt 1))")
	l, root := parsed(t, "val x = ["+strings.Repeat("1,", 200000)+"1]")
	if len(l) != 200001+5 || Check(l, root) != api.OK {
		t.Errorf("%d nodes", len(l))
	}
	l, root = parsed(t, "fun f"+strings.Repeat(" x", 100000)+" = 1")
	if Check(l, root) != api.OK {
		t.Error("Check")
	}
}
