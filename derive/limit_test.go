package derive

import (
	"strconv"
	"strings"
	"testing"

	"kiln/api"
	"kiln/tree"
)

// filled is nodes and, above one of them, as many more as an expression of so many nodes needs: each is an ERaise of the one below it.
func filled(l []api.Node, i, more int) ([]api.Node, int) {
	l = clone(l)
	for range more {
		l = append(l, api.Node{Kind: api.ERaise, Kids: []int{i}})
		i = len(l) - 1
	}
	return l, i
}

// P6.1: how many nodes each form has, by whether there is room for them all.
func TestRoom(t *testing.T) {
	for s, want := range map[string]int{
		"a":                         1,
		"()":                        1,
		"(a, b, c)":                 1 + 3 + 3,
		"{a = 1, b = 2}":            1 + 2 + 2,
		"#a":                        7,
		"[]":                        1,
		"[a, b]":                    1 + 2*5 + 2,
		"case a of b => c | d => e": 2 + 5 + 2,
		"if a then b else c":        6 + 3,
		"a andalso b":               7 + 2,
		"a orelse b":                7 + 2,
		"(a; b; c)":                 2*4 + 3,
		"while a do b":              27,
		"let in a end":              3,
		"let in a; b; c end":        2 + 2*4 + 3,
		"let infix x y in a end":    3,
		"let infix x y val b = 1 infix z in a end": 3 + 4,
		"fn () => ()":              4,
		"fn [a] => ()":             3 + 6 + 1,
		"fn (a, b) => ()":          3 + 5,
		"a : b * c":                2 + 5,
		"let fun f a = b in c end": 3 + 1 + 6,
		"let fun f a : t = b | f c = d and g e = f in h end": 3 + 1 + (3 + 5 + 3) + 6,
		"let fun f a b = c in d end":                         3 + 1 + 2 + 2*3 + (3 + 2 + 2) + (1 + 1 + 2 + 2 + 1),
		"let fun f a b = c | f d e : t = g in h end":         3 + 1 + 2 + 2*3 + (3 + 2 + 2) + (1 + 1 + 2 + 2 + 1) + (1 + 1 + 2 + 2 + 3),
	} {
		l, root := parsed(t, "val v = "+s)
		i := l[l[l[root].Kids[0]].Kids[0]].Kids[1]
		if m, _ := derived(t, l, i); len(m) != want {
			t.Errorf("Derive(%q): %d nodes; want %d", s, len(m), want)
		}
		full, peak := filled(l, i, api.MaxNodes-want)
		if m, top, line, column, e := Derive(full, peak); len(m) != api.MaxNodes || top < 0 || line != 0 || column != 0 || e != api.OK {
			t.Errorf("Derive(%q) with room: %d nodes, %d", s, len(m), e)
		}
		full, peak = filled(l, i, api.MaxNodes-want+1)
		sameFault(t, full, peak, 0, 0, api.ErrMany)
	}
}

// P6.1: what fills the tree may stand below what is put into its bare form, too.
func TestRoomAbove(t *testing.T) {
	for _, kids := range []int{2, 3, 1000} {
		for kind, made := range map[api.NodeKind]int{api.ETuple: kids + 1, api.EList: 5*kids + 1, api.ESeq: 4 * (kids - 1)} {
			for _, beyond := range []int{0, 1} {
				l, i := filled([]api.Node{{Kind: api.EName, Text: "a"}}, 0, api.MaxNodes-made-1+beyond)
				n := api.Node{Kind: kind}
				for range kids {
					n.Kids = append(n.Kids, i) // it stands at all of them, but is put into its bare form once
				}
				l = append(l, n)
				m, _, line, column, e := Derive(l, len(l)-1)
				if line != 0 || column != 0 || beyond == 0 && (e != api.OK || len(m) != api.MaxNodes) || beyond == 1 && (e != api.ErrMany || len(m) != 0) {
					t.Errorf("%s of %d, %d beyond: %d nodes, %d", kindNames[kind], kids, beyond, len(m), e)
				}
			}
		}
	}
}

// P6.1: nodes of which nothing is left, or that are not below the root, take no room; a fault is told ahead of ErrMany.
func TestNoRoomTaken(t *testing.T) {
	l, i := filled([]api.Node{{Kind: api.NInt, Text: "1"}, {Kind: api.PName, Text: "x"}}, 0, api.MaxNodes-5)
	l = append(l, api.Node{Kind: api.NBind, Kids: []int{1, i}})
	l = append(l, api.Node{Kind: api.DVal, Kids: []int{len(l) - 1}})
	dec := len(l) - 1
	fix := api.Node{Kind: api.DFix, Text: "nonfix"}
	for range 300000 {
		l = append(l, api.Node{Kind: api.PName, Text: "y"})
		fix.Kids = append(fix.Kids, len(l)-1)
	}
	fix.Kids = append(fix.Kids, 1)
	l = append(l, fix)
	l = append(l, api.Node{Kind: api.NDecs, Kids: []int{len(l) - 1, dec, len(l) - 1}})
	m, top := derived(t, l, len(l)-1)
	if len(m) != api.MaxNodes || len(m[top].Kids) != 1 {
		t.Errorf("%d nodes, %d declarations", len(m), len(m[top].Kids))
	}
	l[len(l)-1].Kids = []int{dec, dec, dec} // they stand there once, but thrice
	if m, _ := derived(t, l, len(l)-1); len(m) != api.MaxNodes {
		t.Errorf("%d nodes", len(m))
	}
	l, i = filled([]api.Node{{Kind: api.NInt, Text: "1"}, {Kind: api.NField, Text: "a", Kids: []int{0}, Line: 4, Column: 5}, {Kind: api.ERecord, Kids: []int{1, 1}}}, 2, api.MaxNodes)
	sameFault(t, l, i, 4, 5, api.ErrTwice)
}

// P6.1, P1: a node with very many kids.
func TestManyKids(t *testing.T) {
	for _, kind := range []api.NodeKind{api.ETuple, api.EList, api.ESeq, api.EApp} {
		n := api.Node{Kind: kind, Kids: make([]int, 3000000)}
		want := api.ErrMany
		if kind == api.EApp {
			want = api.ErrTree
		}
		sameFault(t, []api.Node{{Kind: api.NInt, Text: "1"}, n}, 1, 0, 0, want)
	}
	decs := []api.Node{{Kind: api.SName}, {Kind: api.DOpen, Kids: []int{0}}, {Kind: api.NDecs, Kids: make([]int, 3000000)}}
	for i := range decs[2].Kids {
		decs[2].Kids[i] = 1
	}
	if m, top := derived(t, decs, 2); len(m) != 3 || len(m[top].Kids) != 3000000 {
		t.Errorf("%d nodes, %d declarations", len(m), len(m[top].Kids))
	}
	clauses := []api.Node{{Kind: api.PWild}, {Kind: api.NPats, Kids: make([]int, 3000000)}, {Kind: api.NInt}, {Kind: api.NClause, Text: "f", Kids: []int{1, 2}}, {Kind: api.NFun, Kids: []int{3}}}
	sameFault(t, clauses, 4, 0, 0, api.ErrMany)
}

// P6.1: a list as long as may be is nested as deep.
func TestLongList(t *testing.T) {
	n := api.Node{Kind: api.EList, Kids: make([]int, (api.MaxNodes-2)/5)}
	l := []api.Node{{Kind: api.NInt, Text: "1"}, n}
	m, top := derived(t, l, 1)
	if len(m) != 5*len(n.Kids)+2 || m[top].Kind != api.EApp {
		t.Errorf("%d nodes, %s", len(m), label(m[top]))
	}
	l[1].Kids = append(l[1].Kids, 0)
	sameFault(t, l, 1, 0, 0, api.ErrMany)
	source, root := parsed(t, "val x = ["+strings.Repeat("1,", 40000)+"1]")
	if m, top := derived(t, source, root); len(m) != 6*40001+5 || !Bare(m, top) {
		t.Errorf("%d nodes", len(m))
	}
	source, root = parsed(t, "val x = ["+strings.Repeat("1,", 50000)+"1]")
	sameFault(t, source, root, 0, 0, api.ErrMany)
}

// P1: nodes that stand in many others are gone through in little time.
func TestSharedNodes(t *testing.T) {
	for _, kind := range []api.NodeKind{api.EApp, api.EAnd, api.EWhile, api.ESeq, api.ETuple, api.EList} {
		l := []api.Node{{Kind: api.NInt, Text: "1"}}
		for i := range 10000 {
			l = append(l, api.Node{Kind: kind, Kids: []int{i, i}})
		}
		m, top := derived(t, l, len(l)-1)
		one, _ := derived(t, l, 1)
		if want := 10000*(len(one)-1) + 1; len(m) != want {
			t.Errorf("%s: %d nodes; want %d", kindNames[kind], len(m), want)
		}
		if again, peak := derived(t, m, top); !tree.Same(m, top, again, peak) {
			t.Errorf("%s: another form of the bare one", kindNames[kind])
		}
	}
	l := []api.Node{{Kind: api.TVar, Text: "'a", Line: 1}, {Kind: api.TVar, Text: "'b", Line: 2}, {Kind: api.TArrow, Kids: []int{1, 0}}}
	for i := range 100000 {
		l = append(l, api.Node{Kind: api.TArrow, Kids: []int{i + 2, i + 2}})
	}
	top := len(l) - 1
	l = append(l, api.Node{Kind: api.NTybind, Kids: []int{0, top}}, api.Node{Kind: api.NTybind, Kids: []int{0, 1, top}})
	sameFault(t, l, top+1, 2, 0, api.ErrTyvar)
	derived(t, l, top+2)
}

// P1: a name in types that stand in many bindings of a DRec, and very many names ahead of others.
func TestManyNames(t *testing.T) {
	l := []api.Node{{Kind: api.TCon, Text: "t"}, {Kind: api.NInt}, {Kind: api.PName, Text: "f"}, {Kind: api.NRule, Kids: []int{2, 1}}, {Kind: api.EFn, Kids: []int{3}}}
	pat, exp := 2, 4
	for range 50000 {
		l = append(l, api.Node{Kind: api.PTyped, Kids: []int{pat, 0}}, api.Node{Kind: api.ETyped, Kids: []int{exp, 0}})
		pat, exp = len(l)-2, len(l)-1
	}
	decs := api.Node{Kind: api.NDecs}
	for range 50000 {
		l = append(l, api.Node{Kind: api.NBind, Kids: []int{pat, exp}})
		l = append(l, api.Node{Kind: api.DRec, Kids: []int{len(l) - 1}})
		decs.Kids = append(decs.Kids, len(l)-1)
	}
	l = append(l, decs)
	derived(t, l, len(l)-1)

	// A record of very many labels, and then very many of few.
	var b strings.Builder
	b.WriteString("val x = {")
	for i := range 50000 {
		b.WriteString("a" + strconv.Itoa(i) + " = 1, ")
	}
	b.WriteString("b = 1}\n")
	for range 20000 {
		b.WriteString("open A val {c} = y\n")
	}
	source, root := parsed(t, b.String())
	derived(t, source, root)
	source, root = parsed(t, strings.Replace(b.String(), "b = 1", "a7 = 1", 1))
	if _, _, line, _, e := Derive(source, root); line != 1 || e != api.ErrTwice {
		t.Errorf("Derive: %d at line %d", e, line)
	}
}
