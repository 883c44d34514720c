package lower

import (
	"slices"
	"testing"

	"kiln/api"
)

// kinds is how many nodes of a kind the program of a text has.
func kinds(t *testing.T, text string, k api.TermKind) int {
	t.Helper()
	n := 0
	for _, x := range lowers(t, unitsOf(t, text)).Nodes {
		if x.Kind == k {
			n++
		}
	}
	return n
}

// What is done at once needs no function: primitives, constructors, exceptions, cases; where one rule may fail at several places, the next ones are a function.
func TestDirect(t *testing.T) {
	data := "datatype t = A | B of int | C of t * t exception E of int "
	for _, c := range []struct {
		text       string
		fns, cases int
	}{
		{"val x = 1 + 2", 0, 0},
		{"val x = (op - : int * int -> int) (1, 2)", 0, 0},
		{"val x = Prim.substring (\"abc\", 1, 1)", 0, 0},
		{"val x = Prim.size \"abc\"", 0, 0},
		{"val x = [1, 2]", 0, 0},
		{"val x = ref 1", 0, 0},
		{data + "val x = C (A, B 1)", 0, 0},
		{data + "val x = raise E 1", 0, 0},
		{"val x = case 1 of y => y", 0, 0},
		{"val x = case (1, 2) of (y, z) => y", 0, 0},
		{"val x = if true then 1 else 2", 0, 1},
		{"val x = case 1 of 1 => 2 | 2 => 3 | 3 => 4 | _ => 5", 0, 1},
		{data + "val x = case A of A => 1 | B n => n | C _ => 3", 0, 1},
		{data + "val x = case A of (y as A) => 1 | (B n : t) => n | C (a, b) => 3", 0, 1},
		{"val x = case 1 of 1 => 2 | y => 3 | 3 => 4", 0, 1},
		{"val x = case (1, 2) of (1, y) => 2 | (y, _) => 3", 0, 1},
		{"val x = case (1, 2) of (1, 2) => 2 | _ => 3", 1, 2},
		{"val x = case (1, 2) of (1, 2) => 2 | (3, 4) => 3 | _ => 4", 2, 4},
		{"val x = case (1, (2, 3)) of (1, (2, 3)) => 2 | _ => 3", 1, 3},
		{"val x = case (1, 2) of (1, 2) => 2", 0, 2},
		{"val x = (raise Div) handle Div => 1 | Match => 2", 0, 2},
		{"val f = fn x => x", 1, 0},
		{"fun f x y = x", 2, 0},
		{"val f = op +", 1, 0},
		{"val r = ref 1 val x = case r of ref 1 => 2 | ref y => y", 0, 1},
		{"datatype t = A of int val x = case A 1 of A 2 => 3 | A y => y", 0, 1},
	} {
		if fns, cases := kinds(t, c.text, api.LFn), kinds(t, c.text, api.LCase); fns != c.fns || cases != c.cases {
			t.Errorf("%s: %d functions, %d cases; want %d, %d", c.text, fns, cases, c.fns, c.cases)
		}
		if fns, apps := kinds(t, c.text, api.LFn), kinds(t, c.text, api.LApp); c.fns == 0 && apps > 0 {
			t.Errorf("%s: %d functions, %d applications", c.text, fns, apps)
		}
	}
}

// Small texts are small programs: behind the names of the exceptions stand no more nodes than are needed, and none that the root does not reach.
func TestSmall(t *testing.T) {
	const names = 24
	for text, want := range map[string]int{
		"":                       1, // the int 0
		"val x = 1":              3, // LInt, LLet
		"val _ = 1":              3,
		"val x = 1 and y = 2":    5,
		"val x = (1, 2)":         5,
		"type t = int":           1,
		"val f = fn x => x":      4, // LVar, LFn, LLet
		"val f = fn (x, y) => y": 9, // LFn, two LFields of an LVar in LLets, LVar, LLet
		"val {a, b = _, ...} = {b = 1, a = 2, c = 3}":    15, // three LInts, LLets and LVars, LTuple, LLet; LVar, LField, LLet
		"val x = if true then 1 else 2":                  8,  // LLet, LInt, LCase, LVar, two LInts, LLet: no branch more
		"fun f x = f x":                                  6,  // LFix, LFn, LApp, LVar, LVar
		"val f = fn 0 => 1 | n => n":                     8,  // LFn, LCase, LVar, LInt, LLet of an LVar, LLet
		"val x = case 1 of (y : int) => y":               5,  // LLet, LInt, LVar, LLet
		"val f = fn (x as (y : int)) => x":               5,  // LFn, LLet of the LVar x, LLet
		"structure S = struct val x = 1 end val y = S.x": 9,  // LInt, LTuple of an LVar, LLet, LField of an LVar, LLet, LLet
	} {
		p := lowers(t, unitsOf(t, text))
		if n := len(p.Nodes) - names; n != want {
			t.Errorf("%s: %d nodes; want %d", text, n, want)
		}
		used := make([]bool, len(p.Nodes))
		used[p.Root] = true
		for i, x := range slices.Backward(p.Nodes) {
			for _, a := range x.Args {
				used[a] = used[a] || used[i]
			}
		}
		if slices.Contains(used[1:], false) {
			t.Errorf("%s: a node that nobody uses: %v", text, used)
		}
	}
}
