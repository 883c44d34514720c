package tree

import (
	"slices"
	"strings"
	"testing"
	"unsafe"

	"kiln/api"
)

// cloneTokens is the same tokens in other memory.
func cloneTokens(l []api.Token) []api.Token {
	out := slices.Clone(l)
	for i := range out {
		out[i].Path = slices.Clone(out[i].Path)
	}
	return out
}

// Rule 4: what is handed in is not changed, and an answer shares no memory with it, with another answer, or within.
func TestParseMemory(t *testing.T) {
	for _, s := range append(samples(), "open "+strings.Repeat("A.B.C.d E.f ", 50), "val x = end") {
		tokens := scan(t, s)
		before := cloneTokens(tokens)
		l, root, _, _, e := Parse(tokens)
		again, _, _, _, _ := Parse(tokens)
		if !slices.EqualFunc(tokens, before, func(a, b api.Token) bool {
			return a.Kind == b.Kind && a.Text == b.Text && slices.Equal(a.Path, b.Path) && a.Line == b.Line && a.Column == b.Column
		}) {
			t.Errorf("Parse(%q) changed the tokens", s)
		}
		want := clone(l)
		for i := range tokens { // what is done to the tokens, or to another answer, is not seen
			for k := range tokens[i].Path {
				tokens[i].Path[k] = "x"
			}
			tokens[i] = api.Token{}
		}
		for i := range again {
			again[i].Kids = append(again[i].Kids[:0], 99, 98, 97, 96)
			again[i].Path = append(again[i].Path[:0], "y", "y", "y")
		}
		if !sameNodes(l, want) || e == api.OK && Check(l, root) != api.OK {
			t.Errorf("Parse(%q) shares memory", s)
		}
		for i := range l { // what is put behind one list is not seen in another
			_ = append(l[i].Kids, 99, 98, 97, 96)
			_ = append(l[i].Path, "y", "y", "y")
		}
		if !sameNodes(l, want) {
			t.Errorf("Parse(%q): lists share memory", s)
		}
	}
}

// Rule 4: texts are new memory, too.
func TestTextMemory(t *testing.T) {
	tokens := scan(t, `infix ++ val (A.B.c, "text", x) = #label {a = abc, b = 123} 1.25 #"c" : 'a B.t structure Sss = Ttt.Uuu open Vvv`)
	from := map[*byte]bool{}
	for _, k := range tokens {
		for _, s := range append(slices.Clone(k.Path), k.Text) {
			from[unsafe.StringData(s)] = true
		}
	}
	l, _, _, _, e := Parse(tokens)
	if e != api.OK {
		t.Fatal(e)
	}
	for _, n := range l {
		for _, s := range append(slices.Clone(n.Path), n.Text) {
			if s != "" && from[unsafe.StringData(s)] {
				t.Errorf("%s: %q shares a token's memory", label(n), s)
			}
		}
	}
}

// Rule 4: Check, Below and Same change nothing, and Below's answer is new memory.
func TestWalkMemory(t *testing.T) {
	for _, s := range samples() {
		l, root := parsed(t, s)
		want := clone(l)
		roots := []int{root, -1, 0, root}
		a := Below(l, roots...)
		b := Below(l, roots...)
		Check(l, root)
		Same(l, root, l, 0)
		for i := range a {
			a[i] = -7
		}
		_ = append(a, 5)
		if !slices.Equal(b, Below(l, root)) || !slices.Equal(roots, []int{root, -1, 0, root}) || !sameNodes(l, want) {
			t.Errorf("%q: something was changed", s)
		}
	}
}

// Rule 4: nil and empty lists are the same.
func TestNilAndEmpty(t *testing.T) {
	for _, l := range [][]api.Token{nil, {}} {
		n, root, line, column, e := Parse(l)
		if len(n) != 1 || root != 0 || line != 0 || column != 0 || e != api.OK || n[0].Kind != api.NDecs || len(n[0].Kids) != 0 || n[0].Line != 0 || n[0].Column != 0 {
			t.Errorf("Parse of nothing = %v, %d, %d, %d, %d", n, root, line, column, e)
		}
	}
	tokens := scan(t, "val x = A.b + c")
	for i := range tokens {
		if tokens[i].Path == nil {
			tokens[i].Path = []string{}
		}
	}
	n, root, _, _, e := Parse(tokens)
	if e != api.OK || show(n, root) != "NDecs(DVal(NBind(PName x, EApp(EName +, ETuple(EName A.b, EName c)))))" {
		t.Errorf("Parse with empty Paths: %d", e)
	}
	if Below(nil) != nil && len(Below(nil)) != 0 || Check([]api.Node{{Kind: api.ETuple, Kids: []int{}}}, 0) != api.OK || !Same([]api.Node{{Path: []string{}}}, 0, []api.Node{{Kids: []int{}}}, 0) {
		t.Error("nil and empty lists")
	}
}
