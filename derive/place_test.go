package derive

import (
	"math/rand"
	"testing"

	"kiln/api"
	"kiln/tree"
)

// P6.1: what is made has the place of the node for which it is made; all else has its own.
func TestPlaces(t *testing.T) {
	for s, want := range map[string]string{
		"val x = (a, b)":             "NDecs@1(DVal@1(NBind@5(PName x@5, ERecord@9(NField 1@9(EName a@10), NField 2@9(EName b@13)))))",
		"val (a, b) = ()":            "NDecs@1(DVal@1(NBind@5(PRecord@5(NField 1@5(PName a@6), NField 2@5(PName b@9)), ERecord@14)))",
		"type t = a * b":             "NDecs@1(DType@1(NTybind t@6(TRec@10(NField 1@10(TCon a@10), NField 2@10(TCon b@14)))))",
		"val x = #a":                 "NDecs@1(DVal@1(NBind@5(PName x@5, EFn@9(NRule@9(PRecord@9(NField a@9(PName  1@9), PDots@9), EName  1@9)))))",
		"val x = [a]":                "NDecs@1(DVal@1(NBind@5(PName x@5, EApp@9(EName ::@9, ERecord@9(NField 1@9(EName a@10), NField 2@9(EName nil@9))))))",
		"val [a] = b":                "NDecs@1(DVal@1(NBind@5(PApp@5(PName ::@5, PRecord@5(NField 1@5(PName a@6), NField 2@5(PName nil@5))), EName b@11)))",
		"val x = case a of b => c":   "NDecs@1(DVal@1(NBind@5(PName x@5, EApp@9(EFn@9(NRule@19(PName b@19, EName c@24)), EName a@14))))",
		"val x = if a then b else c": "NDecs@1(DVal@1(NBind@5(PName x@5, EApp@9(EFn@9(NRule@9(PName true@9, EName b@19), NRule@9(PName false@9, EName c@26)), EName a@12))))",
		"val x = f a andalso b":      "NDecs@1(DVal@1(NBind@5(PName x@5, EApp@9(EFn@9(NRule@9(PName true@9, EName b@21), NRule@9(PName false@9, EName false@9)), EApp@9(EName f@9, EName a@11)))))",
		"val x = a + b orelse c":     "NDecs@1(DVal@1(NBind@5(PName x@5, EApp@11(EFn@11(NRule@11(PName true@11, EName true@11), NRule@11(PName false@11, EName c@22)), EApp@11(EName +@11, ERecord@11(NField 1@11(EName a@9), NField 2@11(EName b@13)))))))",
		"val x = (a; b; c)":          "NDecs@1(DVal@1(NBind@5(PName x@5, EApp@9(EFn@9(NRule@9(PWild@9, EApp@9(EFn@9(NRule@9(PWild@9, EName c@16)), EName b@13))), EName a@10))))",
		"val x = let in a; b end":    "NDecs@1(DVal@1(NBind@5(PName x@5, ELet@9(NDecs@13, EApp@9(EFn@9(NRule@9(PWild@9, EName b@19)), EName a@16)))))",
		"val x = while a do b": "NDecs@1(DVal@1(NBind@5(PName x@5, ELet@9(NDecs@9(DRec@9(NBind@9(PName  w@9, EFn@9(NRule@9(PRecord@9, EApp@9(EFn@9(" +
			"NRule@9(PName true@9, EApp@9(EFn@9(NRule@9(PWild@9, EApp@9(EName  w@9, ERecord@9))), EName b@20)), NRule@9(PName false@9, ERecord@9)), EName a@15)))))), EApp@9(EName  w@9, ERecord@9)))))",
		"; infix a val x = 1": "NDecs@1(DVal@11(NBind@15(PName x@15, NInt 1@19)))",

		"fun f x = a | op f y : t = b and g z = c": "NDecs@1(DRec@1(" +
			"NBind@5(PName f@5, EFn@5(NRule@5(PName x@7, EName a@11), NRule@15(PName y@20, ETyped@15(EName b@28, TCon t@24)))), " +
			"NBind@34(PName g@34, EFn@34(NRule@34(PName z@36, EName c@40)))))",
		"fun (a, b) + c : t = d": "NDecs@1(DRec@1(NBind@5(PName +@5, EFn@5(NRule@5(PRecord@12(NField 1@12(PRecord@5(NField 1@5(PName a@6), NField 2@5(PName b@9))), NField 2@12(PName c@14)), ETyped@5(EName d@22, TCon t@18))))))",
		"fun f x y = a | f _ [] : t = b": "NDecs@1(DRec@1(NBind@5(PName f@5, EFn@5(NRule@5(PName  1@5, EFn@5(NRule@5(PName  2@5, EApp@5(EFn@5(" +
			"NRule@5(PRecord@7(NField 1@7(PName x@7), NField 2@7(PName y@9)), EName a@13), " +
			"NRule@17(PRecord@19(NField 1@19(PWild@19), NField 2@19(PName nil@21)), ETyped@17(EName b@30, TCon t@26))" +
			"), ERecord@5(NField 1@5(EName  1@5), NField 2@5(EName  2@5))))))))))",
		"val x = 1 fun f a b = c and g d e = h": "NDecs@1(DVal@1(NBind@5(PName x@5, NInt 1@9)), DRec@11(" +
			"NBind@15(PName f@15, EFn@15(NRule@15(PName  1@15, EFn@15(NRule@15(PName  2@15, EApp@15(EFn@15(NRule@15(PRecord@17(NField 1@17(PName a@17), NField 2@17(PName b@19)), EName c@23)), ERecord@15(NField 1@15(EName  1@15), NField 2@15(EName  2@15)))))))), " +
			"NBind@29(PName g@29, EFn@29(NRule@29(PName  1@29, EFn@29(NRule@29(PName  2@29, EApp@29(EFn@29(NRule@29(PRecord@31(NField 1@31(PName d@31), NField 2@31(PName e@33)), EName h@37)), ERecord@29(NField 1@29(EName  1@29), NField 2@29(EName  2@29))))))))))",
	} {
		l, root := parsed(t, s)
		m, top := derived(t, l, root)
		if got := showPlaces(m, top); got != want {
			t.Errorf("Derive(%q) =\n %s; want\n %s", s, got, want)
		}
		for _, n := range m {
			if n.Line != 1 {
				t.Errorf("Derive(%q): %s in the line %d", s, label(n), n.Line)
			}
		}
	}
}

// P6.1: lines are kept, too; and a directive alone leaves its place.
func TestLines(t *testing.T) {
	l, root := parsed(t, "val x =\n if a\n then b\n else [\n c]")
	m, top := derived(t, l, root)
	for i, n := range m {
		want := map[string]int{"EName a": 2, "EName b": 3, "EName ::": 4, "EName nil": 4, "NField 1": 4, "EName c": 5, "NRule": 2, "PName true": 2}[label(n)]
		if want != 0 && n.Line != want {
			t.Errorf("node %d, %s: line %d; want %d", i, label(n), n.Line, want)
		}
	}
	if m[top].Line != 1 {
		t.Errorf("root: line %d", m[top].Line)
	}
	fix := []api.Node{{Kind: api.PName, Text: "a", Line: 3, Column: 4}, {Kind: api.DFix, Text: "infix 0", Kids: []int{0}, Line: 5, Column: 6}}
	if m, top := derived(t, fix, 1); len(m) != 1 || m[top].Line != 5 || m[top].Column != 6 {
		t.Errorf("Derive of a directive: %v", m)
	}
}

// P6.5: with other places the bare tree is the same but for places, and the same fault is told.
func TestOtherPlaces(t *testing.T) {
	r := rand.New(rand.NewSource(5))
	for seed := range int64(2000) {
		l, root := grown(seed)
		other := clone(l)
		for i := range other {
			other[i].Line, other[i].Column = r.Intn(7)-3, r.Int()
		}
		m, top, line, column, e := Derive(l, root)
		k, peak, otherLine, otherColumn, otherErr := Derive(other, root)
		if e != otherErr || e == api.OK && !tree.Same(m, top, k, peak) {
			t.Fatalf("seed %d: Derive with other places: %d; want %d", seed, otherErr, e)
		}
		if e == api.OK {
			continue
		}
		at := at(l, line, column)
		if at < 0 || otherLine != other[at].Line || otherColumn != other[at].Column {
			t.Fatalf("seed %d: %d at %d, %d; with other places not at the same node, %d", seed, e, line, column, at)
		}
	}
}

// at is the node with a place, which no other one has; or -1.
func at(l []api.Node, line, column int) int {
	for i, n := range l {
		if n.Line == line && n.Column == column {
			return i
		}
	}
	return -1
}
