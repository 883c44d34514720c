package tree

import (
	"math"
	"math/rand"
	"slices"
	"strconv"
	"testing"

	"kiln/api"
)

// nodesOf are nodes with these kids.
func nodesOf(kids ...[]int) []api.Node {
	var l []api.Node
	for _, k := range kids {
		l = append(l, api.Node{Kids: k})
	}
	return l
}

// P5.3: nodes below roots, rising, each once.
func TestBelow(t *testing.T) {
	l := nodesOf(nil, nil, []int{1}, []int{0, 2, 0}, nil, []int{4, 4}, []int{3, 5}, []int{6})
	odd := nodesOf([]int{0}, []int{-1, 0, 1}, []int{3, 1}, []int{9, 2, math.MinInt, math.MaxInt}, []int{5, 4}, []int{4})
	for _, c := range []struct {
		l           []api.Node
		roots, want []int
	}{
		{l, nil, nil},
		{l, []int{0}, []int{0}},
		{l, []int{2}, []int{1, 2}},
		{l, []int{3}, []int{0, 1, 2, 3}},
		{l, []int{7}, []int{0, 1, 2, 3, 4, 5, 6, 7}},
		{l, []int{5, 2}, []int{1, 2, 4, 5}},
		{l, []int{2, 5, 2, 2, 1}, []int{1, 2, 4, 5}},
		{l, []int{7, 0}, []int{0, 1, 2, 3, 4, 5, 6, 7}},
		{l, []int{-1, 8, math.MinInt, math.MaxInt}, nil},
		{l, []int{8, 1, -1}, []int{1}},
		{l, []int{1 << 40, 1}, []int{1}},
		{nil, nil, nil},
		{nil, []int{0, -1, 1}, nil},
		{odd, []int{0}, []int{0}},
		{odd, []int{1}, []int{0, 1}},
		{odd, []int{2}, []int{0, 1, 2}},
		{odd, []int{3}, []int{0, 1, 2, 3}},
		{odd, []int{4}, []int{4}},
		{odd, []int{5}, []int{4, 5}},
		{odd, []int{5, 1, 6}, []int{0, 1, 4, 5}},
	} {
		if got := Below(c.l, c.roots...); !slices.Equal(got, c.want) {
			t.Errorf("Below of %v = %v; want %v", c.roots, got, c.want)
		}
	}
	for _, s := range samples() {
		l, root := parsed(t, s)
		if got := Below(l, root); len(got) != len(l) || got[len(l)-1] != root {
			t.Errorf("Below of %q: %d of %d nodes", s, len(got), len(l))
		}
	}
}

// belowModel is Below by going from each root as far as kids are lower.
func belowModel(l []api.Node, roots []int) []int {
	met := map[int]bool{}
	var visit func(i int)
	visit = func(i int) {
		if i < 0 || i >= len(l) || met[i] {
			return
		}
		met[i] = true
		for _, k := range l[i].Kids {
			if k < i {
				visit(k)
			}
		}
	}
	for _, r := range roots {
		visit(r)
	}
	var all []int
	for i := range l {
		if met[i] {
			all = append(all, i)
		}
	}
	return all
}

// randomNodes are some with kids of any numbers, of few kinds and texts.
func randomNodes(r *rand.Rand, wild bool) []api.Node {
	var l []api.Node
	for i := range r.Intn(9) {
		n := api.Node{Kind: api.NodeKind(r.Intn(2)), Text: []string{"", "a"}[r.Intn(2)], Line: r.Intn(3), Column: r.Intn(3)}
		if r.Intn(4) == 0 {
			n.Path = [][]string{{}, {"A"}, {"A", "B"}}[r.Intn(3)]
		}
		for range r.Intn(3) {
			if wild && r.Intn(6) == 0 {
				n.Kids = append(n.Kids, r.Intn(12)-2)
			} else if i > 0 {
				n.Kids = append(n.Kids, r.Intn(i))
			}
		}
		l = append(l, n)
	}
	return l
}

// P5.3: any nodes, any roots.
func TestBelowRandom(t *testing.T) {
	r := rand.New(rand.NewSource(3))
	for range 20000 {
		l := randomNodes(r, true)
		var roots []int
		for range r.Intn(4) {
			roots = append(roots, r.Intn(12)-2)
		}
		if got, want := Below(l, roots...), belowModel(l, roots); !slices.Equal(got, want) {
			t.Fatalf("Below(%v, %v) = %v; want %v", l, roots, got, want)
		}
	}
}

// sameModel is Same word by word.
func sameModel(a []api.Node, i int, b []api.Node, k int) bool {
	if i < 0 || i >= len(a) || k < 0 || k >= len(b) {
		return false
	}
	x, y := a[i], b[k]
	if x.Kind != y.Kind || x.Text != y.Text || !slices.Equal(x.Path, y.Path) || len(x.Kids) != len(y.Kids) {
		return false
	}
	for n := range x.Kids {
		if x.Kids[n] >= i || y.Kids[n] >= k || !sameModel(a, x.Kids[n], b, y.Kids[n]) {
			return false
		}
	}
	return true
}

// P5.4: any nodes against any others.
func TestSameRandom(t *testing.T) {
	r := rand.New(rand.NewSource(4))
	count := 0
	for n := range 20000 {
		a, b := randomNodes(r, n%2 == 0), randomNodes(r, n%2 == 0)
		for i := -1; i <= len(a); i++ {
			for k := -1; k <= len(b); k++ {
				got, want := Same(a, i, b, k), sameModel(a, i, b, k)
				if got != want {
					t.Fatalf("Same(%v, %d, %v, %d) = %t", a, i, b, k, got)
				}
				if want && len(a[i].Kids) > 0 {
					count++
				}
			}
		}
	}
	if count < 100 {
		t.Errorf("only %d the same", count)
	}
}

// P5.4: trees that part in one Kind, Text, Path or kid, wherever, are not the same; places play no part, nor other nodes.
func TestSame(t *testing.T) {
	for _, s := range samples() {
		a, root := parsed(t, s)
		b := clone(a)
		for i := range b {
			b[i].Line, b[i].Column = -5, math.MaxInt
			if b[i].Path == nil {
				b[i].Path = []string{}
			}
			if b[i].Kids == nil {
				b[i].Kids = []int{}
			}
		}
		if !Same(a, root, b, root) || !Same(b, root, a, root) || !Same(a, root, a, root) {
			t.Errorf("Same of %q and itself", s)
		}
		for i := range a {
			for _, change := range []func(n *api.Node){
				func(n *api.Node) { n.Kind++ },
				func(n *api.Node) { n.Kind = -n.Kind },
				func(n *api.Node) { n.Text += "x" },
				func(n *api.Node) { n.Text = " " + n.Text },
				func(n *api.Node) { n.Path = append(n.Path, "x") },
				func(n *api.Node) { n.Path = append([]string{""}, n.Path...) },
				func(n *api.Node) { n.Kids = append(n.Kids, i) },
				func(n *api.Node) { n.Kids = append([]int{-1}, n.Kids...) },
				func(n *api.Node) { n.Kids = append(n.Kids, 0, 0) },
				func(n *api.Node) { n.Kids = append(n.Kids, root+1) },
			} {
				b := clone(a)
				change(&b[i])
				if Same(a, root, b, root) || Same(b, root, a, root) {
					t.Errorf("Same of %q and another with %v for %v", s, b[i], a[i])
				}
			}
			if len(a[i].Kids) > 0 {
				b := clone(a)
				b[i].Kids = b[i].Kids[:len(b[i].Kids)-1]
				if Same(a, root, b, root) || Same(b, root, a, root) {
					t.Errorf("Same of %q and another with a kid less", s)
				}
			}
		}
	}
}

// P5.4: numbers that are no nodes; kids that are not lower; other numbers for the same nodes.
func TestSameNumbers(t *testing.T) {
	a := nodesOf(nil, []int{0}, []int{1, 1})
	for _, i := range []int{-1, 3, math.MinInt, math.MaxInt} {
		if Same(a, i, a, 0) || Same(a, 0, a, i) || Same(a, i, a, i) || Same(nil, i, nil, i) {
			t.Errorf("Same of %d", i)
		}
	}
	if Same(nil, 0, nil, 0) || Same(a, 0, nil, 0) {
		t.Error("Same of nothing")
	}
	for _, kid := range []int{1, 2, 3, -1, math.MinInt, math.MaxInt} {
		b := nodesOf(nil, []int{kid}, nil)
		if Same(b, 1, b, 1) || Same(a, 1, b, 1) || Same(b, 1, a, 1) {
			t.Errorf("Same with the kid %d", kid)
		}
	}
	shared := nodesOf(nil, []int{0}, []int{1, 1})
	spread := nodesOf(nil, nil, nil, []int{2}, []int{0}, nil, []int{4, 3})
	if !Same(shared, 2, spread, 6) || !Same(spread, 6, shared, 2) || !Same(spread, 3, spread, 4) || Same(spread, 3, spread, 5) {
		t.Error("Same of shared nodes and of others")
	}
	// A path that looks as kids' numbers do.
	odd := []api.Node{{Text: "p"}, {Text: "q"}, {Kids: []int{1, 0}}, {Path: []string{"0"}}, {Kids: []int{0, 0, 1}}, {Path: []string{"", "1"}}}
	for i := range odd {
		for k := range odd {
			if Same(odd, i, odd, k) != (i == k) {
				t.Errorf("Same of %v and %v", odd[i], odd[k])
			}
		}
	}
	// Texts that look alike when they are put side by side.
	for _, c := range [][2]api.Node{
		{{Text: "a", Path: []string{"b"}}, {Text: "b", Path: []string{"a"}}},
		{{Text: "a b"}, {Text: "a", Path: []string{"b"}}},
		{{Path: []string{"a", "b"}}, {Path: []string{"a b"}}},
		{{Path: []string{"a", ""}}, {Path: []string{"", "a"}}},
		{{Path: []string{"a 1 b"}}, {Path: []string{"a", "b"}}},
		{{Text: "1 1"}, {Text: "1", Path: []string{"1"}}},
		{{Kind: 1, Text: "1"}, {Kind: 11}},
		{{Text: " 0"}, {Text: " ", Path: []string{""}}},
		{{Text: "\x00"}, {Text: ""}},
	} {
		if l := c[:]; Same(l, 0, l, 1) || Same(l, 1, l, 0) || !Same(l, 0, l, 0) {
			t.Errorf("Same of %v", c)
		}
	}
}

// P5.3, P5.4, P1: nodes that stand in many others are gone through in little time.
func TestSharedNodes(t *testing.T) {
	var a, b []api.Node
	a, b = nodesOf(nil, nil), nodesOf(nil, nil)
	for i := 2; i < 50000; i++ {
		a = append(a, api.Node{Kids: []int{i - 1, i - 2, i - 1}, Text: strconv.Itoa(i / 1000)})
		b = append(b, api.Node{Kids: []int{i - 1, i - 2, i - 1}, Text: strconv.Itoa(i / 1000)})
	}
	if !Same(a, 49999, b, 49999) || Same(a, 49999, b, 49998) || len(Below(a, 49999, 49998)) != 50000 {
		t.Error("shared nodes")
	}
	b[0].Text = "x"
	if Same(a, 49999, b, 49999) {
		t.Error("shared nodes: one other")
	}
}
