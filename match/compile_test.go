package match

import (
	"math/rand/v2"
	"reflect"
	"strconv"
	"testing"

	"kiln/api"
)

// compiled is the tree of a match, which is held against the chapter.
func compiled(t *testing.T, name string, m api.Match) ([]api.Choice, int) {
	t.Helper()
	l, root, e := Compile(m)
	if e != api.OK {
		t.Fatalf("%s: Compile: %v", name, e)
	}
	holdTree(t, m, l, root)
	return l, root
}

// P9.3: what small trees are.
func TestSmallTrees(t *testing.T) {
	fail := api.Choice{Kind: api.CFail}
	leaf := func(row int) api.Choice { return api.Choice{Kind: api.CLeaf, Row: row} }
	d := newDesk(hInt())
	if l, root := compiled(t, "no rows", d.with()); !reflect.DeepEqual(l, []api.Choice{fail}) || root != 0 {
		t.Errorf("no rows: %+v, %d", l, root)
	}
	if l, root := compiled(t, "any", d.with(d.any(), d.int(1))); !reflect.DeepEqual(l, []api.Choice{leaf(0)}) || root != 0 {
		t.Errorf("any: %+v, %d", l, root)
	}
	l, root := compiled(t, "1, 2, 1", d.with(d.int(1), d.int(2), d.int(1)))
	c := l[root]
	if len(l) != 4 || c.Kind != api.CTest || len(c.Path) != 0 || !reflect.DeepEqual(c.Keys, []api.Datum{wInt(1), wInt(2)}) || !reflect.DeepEqual(l[c.Else], fail) || !reflect.DeepEqual(l[c.Next[0]], leaf(0)) || !reflect.DeepEqual(l[c.Next[1]], leaf(1)) {
		t.Errorf("1, 2, 1: %+v, %d", l, root)
	}
	d = newDesk(hData(-1, 1), hStr())
	l, root = compiled(t, "all constructors", d.with(d.con(1, d.bind(5)), d.bind(6)))
	c = l[root]
	if len(l) != 3 || !reflect.DeepEqual(c.Keys, []api.Datum{wCon(1)}) || !reflect.DeepEqual(l[c.Next[0]], api.Choice{Kind: api.CLeaf, Vars: []int{5}, Paths: [][]int{{0}}}) || l[c.Else].Row != 1 || len(l[c.Else].Paths[0]) != 0 {
		t.Errorf("one constructor: %+v", l)
	}
	l, root = compiled(t, "all constructors", d.with(d.con(1, d.any()), d.con(0)))
	if c = l[root]; len(l) != 3 || len(c.Keys) != 2 || c.Else != -1 {
		t.Errorf("all constructors: %+v", l)
	}
	d = newDesk(hExn(-1))
	l, root = compiled(t, "all exceptions", d.with(d.exn(0)))
	if c = l[root]; len(l) != 3 || !reflect.DeepEqual(c.Keys, []api.Datum{wExn(0)}) || c.Else == -1 {
		t.Errorf("all exceptions: %+v", l)
	}
}

// P9.3: variables, with their paths, in order.
func TestLeaves(t *testing.T) {
	d := newDesk(hRec(1, 2), hData(-1, 0), hRec(3, 3), hInt())
	m := d.rows(d.bind(9, d.rec(d.con(1, d.rec(d.any(), d.bind(8, d.rec(d.bind(7), d.int(4))))), d.bind(6, d.rec(d.bind(5), d.bind(5))))))
	l, root := compiled(t, "variables", m)
	for _, c := range l {
		if c.Kind == api.CLeaf && (!reflect.DeepEqual(c.Vars, []int{9, 8, 7, 6, 5, 5}) || !reflect.DeepEqual(c.Paths, [][]int{{}, {0, 0, 1}, {0, 0, 1, 0}, {1}, {1, 0}, {1, 1}})) {
			t.Errorf("leaf %v, %v", c.Vars, c.Paths)
		}
	}
	v := wRec(wCon(1, wRec(wCon(0), wRec(wInt(3), wInt(4)))), wRec(wInt(1), wInt(2)))
	i, b, ok := Run(l, root, v)
	if want := "9=" + show(v) + ", 8={3 4}, 7=3, 6={1 2}, 5=1, 5=2"; i != 0 || !ok || showBinds(b) != want {
		t.Errorf("Run: %d, %s, %v", i, showBinds(b), ok)
	}
}

// P9.3: a test is one for which most rows ask, so that few of them are made.
func TestFewTests(t *testing.T) {
	d := newDesk(hRec(1, 1, 1), hData(-1, -1, -1))
	any := d.any()
	m := d.rows(d.rec(d.con(0), d.con(0), d.con(0)), d.rec(any, d.con(0), d.con(1)), d.rec(any, any, d.con(2)))
	l, root := compiled(t, "truths", m)
	if !reflect.DeepEqual(l[root].Path, []int{2}) || len(l) != 10 {
		t.Errorf("%d nodes, first %v", len(l), l[root].Path)
	}
	balance := newDesk(hRec(1, 2, 4, 2), hData(-1, -1), hData(-1, 3), hRec(1, 2, 4, 2), hInt())
	b := balance
	x, red, black := b.bind(1), b.con(0), b.con(1)
	tree := func(colour, l, r int) int { return b.con(1, b.rec(colour, l, x, r)) }
	leaf := tree(red, x, x)
	m = b.rows(
		b.rec(black, tree(red, leaf, x), x, x),
		b.rec(black, tree(red, x, leaf), x, x),
		b.rec(black, x, x, tree(red, leaf, x)),
		b.rec(black, x, x, tree(red, x, leaf)),
		b.any())
	if l, _ := compiled(t, "balance", m); len(l) > 120 {
		t.Errorf("balance: %d nodes", len(l))
	}
	covers(t, "balance", m, nil, false)
}

// deep is a pattern of so many tests in one another.
func (d *desk) deep(tests int) int {
	p := d.con(0)
	for range tests - 1 {
		p = d.con(1, p)
	}
	return p
}

// size is of how many patterns a pattern is made, written out.
func (d *desk) size(p int) int {
	n := 1
	if d.Pats[p].Kind == api.QAny {
		return n
	}
	for _, a := range d.Pats[p].Args {
		n += d.size(a)
	}
	return n
}

// P9.3: no match whose rows have together 64 patterns has too many nodes: the worst ones that are known, which ask for parts apart from each other.
func TestWorstTrees(t *testing.T) {
	nat := hData(-1, 1)
	for name, c := range map[string]struct {
		shapes []api.Shape
		rows   func(d *desk, any int) []int
	}{
		"four fields": {[]api.Shape{hRec(1, 1, 1, 1), nat}, func(d *desk, _ int) []int {
			return []int{d.rec(d.deep(12), d.any(), d.any(), d.any()), d.rec(d.any(), d.deep(12), d.any(), d.any()), d.rec(d.any(), d.any(), d.deep(12), d.any()), d.rec(d.any(), d.any(), d.any(), d.deep(12))}
		}},
		"three and two": {[]api.Shape{hRec(2, 3), nat, hRec(1, 1, 1), hRec(1, 1)}, func(d *desk, a int) []int {
			return []int{d.rec(d.rec(d.deep(9), a, a), a), d.rec(d.rec(a, d.deep(8), a), a), d.rec(d.rec(a, a, d.deep(8)), a), d.rec(a, d.rec(d.deep(8), a)), d.rec(a, d.rec(a, d.deep(8)))}
		}},
		"three times two": {[]api.Shape{hRec(2, 2, 2), nat, hRec(1, 1)}, func(d *desk, a int) []int {
			return []int{d.rec(d.rec(d.deep(6), a), a, a), d.rec(d.rec(a, d.deep(6)), a, a), d.rec(a, d.rec(d.deep(6), a), a), d.rec(a, d.rec(a, d.deep(6)), a), d.rec(a, a, d.rec(d.deep(5), a)), d.rec(a, a, d.rec(a, d.deep(5)))}
		}},
		"each after the other": {[]api.Shape{hRec(1, 1, 1, 1, 1), nat}, func(d *desk, a int) []int {
			z := d.con(0)
			return []int{d.rec(d.deep(8), z, z, z, z), d.rec(a, d.deep(8), z, z, z), d.rec(a, a, d.deep(8), z, z), d.rec(a, a, a, d.deep(8), z), d.rec(a, a, a, a, d.deep(7))}
		}},
	} {
		d := newDesk(c.shapes...)
		rows := c.rows(d, d.any())
		size := 0
		for _, p := range rows {
			size += d.size(p)
		}
		m := d.with(rows...)
		l, root := compiled(t, name, m)
		if size != 64 || len(l) > 100000 {
			t.Errorf("%s: %d patterns, %d nodes", name, size, len(l))
		}
		k := &maker{pick: rand.New(rand.NewPCG(1, 2)).IntN, d: d}
		for range 100 {
			v := k.value(0, 14)
			holdValue(t, reading{m}, l, root, v, &tally{})
		}
	}
}

// P9.3: by chance, too.
func TestSmallMatches(t *testing.T) {
	met := 0
	for seed := range uint64(4000) {
		k := &maker{pick: rand.New(rand.NewPCG(seed, 64)).IntN, rows: 12, depth: 9, tame: true}
		m := k.match()
		size := 0
		if Check(m) != api.OK {
			continue
		}
		for _, p := range m.Rows {
			size += k.d.size(p)
		}
		l, root, e := Compile(m)
		if e == api.OK {
			holdTree(t, m, l, root)
		} else if size <= 64 {
			t.Fatalf("%d patterns: %v", size, e)
		}
		if size > 32 && size <= 64 {
			met++
		}
	}
	if met < 500 {
		t.Errorf("%d matches of 33 to 64 patterns", met)
	}
}

// P9.3: too many nodes.
func TestTooManyNodes(t *testing.T) {
	d := newDesk(hInt())
	for i := range api.MaxNodes - 1 {
		d.Rows = append(d.Rows, d.int(int64(i)))
	}
	m := d.with(d.Rows[:api.MaxNodes-2]...)
	l, root, e := Compile(m)
	if e != api.OK || len(l) != api.MaxNodes { // a leaf each, the test, the fail
		t.Fatalf("as many as may be: %d, %v", len(l), e)
	}
	for _, n := range []int64{0, 1000, api.MaxNodes - 3} {
		if i, _, ok := Run(l, root, wInt(n)); i != int(n) || !ok {
			t.Errorf("%d: %d, %v", n, i, ok)
		}
	}
	if i, _, ok := Run(l, root, wInt(-1)); i != 0 || ok {
		t.Errorf("none: %d, %v", i, ok)
	}
	one, two, any := api.Pat{Kind: api.QInt, Int: 1}, api.Pat{Kind: api.QInt, Int: 2}, api.Pat{Kind: api.QAny}
	for name, m := range map[string]api.Match{
		"one more":                    d.Match,
		"shared parts":                doubled(18, hInt(), one).Match,
		"shared parts, far more":      doubled(100, hInt(), one).Match,
		"shared parts, two rows":      doubled(100, hInt(), one, two, any).Match,
		"variables beyond all bounds": doubled(100, hInt(), api.Pat{Kind: api.QBind}).Match,
		"both":                        doubled(100, hInt(), api.Pat{Kind: api.QInt}, api.Pat{Kind: api.QBind}).Match,
	} {
		if l, root, e := Compile(m); e != api.ErrMany || l != nil || root != 0 {
			t.Errorf("%s: %d nodes, %d, %v", name, len(l), root, e)
		}
	}
	parts := doubled(8, hInt(), one, two, api.Pat{Kind: api.QBind, N: 3})
	l, root = compiled(t, "shared parts that are few", parts.Match)
	v := wInt(1)
	for range 8 {
		v = wRec(v, v)
	}
	holdValue(t, reading{parts.Match}, l, root, v, &tally{})
}

// P9.3: trees whose paths nobody could be told are too large, too.
func TestWords(t *testing.T) {
	ends := func(g *grower, words int) (early bool) {
		defer func() { early = recover() != nil }()
		g.begin(words)
		return
	}
	g := &grower{}
	if ends(g, mostWords-1) || ends(g, 1) || !ends(g, 1) {
		t.Errorf("%d words", g.words)
	}
}

// P9.3: a field that no row but the first asks for, again and again.
func TestWideRecords(t *testing.T) {
	n := 3000
	shapes := []api.Shape{{Kind: api.HRec}, hData(-1, -1)}
	d := newDesk(shapes...)
	zero, any := d.con(0), d.any()
	args := []int{}
	for range n {
		d.Shapes[0].Args = append(d.Shapes[0].Args, 1)
		args = append(args, zero)
	}
	row := func(place, p int) int {
		l := make([]int, n)
		for i := range l {
			l[i] = any
		}
		l[place] = p
		return d.rec(l...)
	}
	m := d.rows(d.rec(args...), row(n-1, d.con(1)), row(0, zero))
	l, root := compiled(t, "wide", m)
	v := wRec()
	for range n {
		v.Args = append(v.Args, wCon(0))
	}
	for i, c := range []struct {
		place, con int
		row        string
	}{{0, 0, "0"}, {n - 1, 1, "1"}, {0, 1, "none"}, {5, 1, "2"}, {n - 2, 1, "2"}} {
		w := cloned(v)
		w.Args[c.place].N = c.con
		got := "none"
		if k, _, ok := Run(l, root, w); ok {
			got = strconv.Itoa(k)
		}
		if got != c.row {
			t.Errorf("%d: %s, want %s", i, got, c.row)
		}
	}
	covers(t, "wide", m, nil, true)
}
