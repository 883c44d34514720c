package derive

import (
	"slices"
	"testing"

	"kiln/api"
	"kiln/lex"
	"kiln/tree"
)

// P6.2: each node of a program that has all kinds: a tree is bare, if no node below its root is derived.
func TestBare(t *testing.T) {
	l, _ := parsed(t, allForms)
	yes, no := map[api.NodeKind]int{}, map[api.NodeKind]int{}
	for root := range l {
		want := true
		for _, i := range tree.Below(l, root) {
			if slices.Contains(derivedKinds, l[i].Kind) || l[i].Kind == api.ELet && len(l[i].Kids) > 2 {
				want = false
			}
		}
		if got := Bare(l, root); got != want {
			t.Errorf("Bare(%s) = %v", show(l, root), got)
		}
		if want {
			yes[l[root].Kind]++
		} else {
			no[l[root].Kind]++
		}
	}
	for _, k := range derivedKinds {
		if yes[k] > 0 || no[k] == 0 {
			t.Errorf("%s: %d bare, %d not", kindNames[k], yes[k], no[k])
		}
	}
}

// P6.2: single trees; a tree is bare though Derive refuses it.
func TestBareEdges(t *testing.T) {
	for s, want := range map[string]bool{
		"":                             true,
		"val x = 1":                    true,
		"val x = ()":                   false,
		"val x = if a then b else c":   false,
		"val x = a andalso b":          false,
		"val x = a orelse b":           false,
		"val x = case a of b => c":     false,
		"val x = while a do b":         false,
		"val x = (a; b)":               false,
		"val x = #a":                   false,
		"val x = [a]":                  false,
		"val x = []":                   false,
		"val (a, b) = x":               false,
		"val () = x":                   false,
		"val [a] = x":                  false,
		"val x = {}":                   true,
		"val x = let in 1 end":         true,
		"val x = let in 1; 2 end":      false,
		"val x = let infix a in 1 end": false,
		"val rec x = 1":                true,
		"val x = {a = 1, a = 2}":       true,
		"datatype t = nil":             true,
		"type t = 'a":                  true,
		"type t = a * b":               false,
		"fun f x = x":                  false,
		"val rec f = fn x => x":        true,
		"infix a":                      false,
		"val {a, ...} = r":             true,
	} {
		l, root := parsed(t, s)
		if Bare(l, root) != want {
			t.Errorf("Bare(%q) = %v", s, !want)
		}
	}
	// Nodes that are not below the root say nothing; fields that a kind does not name neither.
	l := []api.Node{{Kind: api.ETuple}, {Kind: api.NInt}, {Kind: api.ERaise, Kids: []int{1}, Text: "x", Path: []string{"y"}}, {Kind: api.ERaise, Kids: []int{0}}}
	for i, want := range []bool{false, true, true, false} {
		if Bare(l, i) != want {
			t.Errorf("Bare with the root %d = %v", i, !want)
		}
	}
}

// P6.3, P6.4: the bare form of what a text says is bare, and its own bare form.
func FuzzDerive(f *testing.F) {
	f.Add(allForms)
	f.Add("val rec x = 1")
	f.Add("fun f x y = 1 | f 2 z = while a do b")
	f.Fuzz(func(t *testing.T, s string) {
		tokens, _, _, e := lex.Scan(s)
		if e != api.OK {
			return
		}
		l, root, _, _, e := tree.Parse(tokens)
		if e != api.OK {
			return
		}
		holdModel(t, l, root, s)
	})
}
