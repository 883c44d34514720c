package lambda

import (
	"maps"
	"math/rand"
	"slices"
	"testing"

	"kiln/api"
)

// P11.2: the free variables of each kind of node.
func TestFree(t *testing.T) {
	for name, c := range map[string]struct {
		write func(d *desk) int
		want  []int
	}{
		"variable":     {func(d *desk) int { return d.v(20) }, []int{20}},
		"int":          {func(d *desk) int { return d.i(20) }, nil},
		"real":         {func(d *desk) int { return d.r(20) }, nil},
		"string":       {func(d *desk) int { return d.s("20") }, nil},
		"tuple":        {func(d *desk) int { return d.tuple(d.v(22), d.v(20), d.v(21), d.v(20)) }, []int{20, 21, 22}},
		"field":        {func(d *desk) int { return d.field(3, d.v(20)) }, []int{20}},
		"constructor":  {func(d *desk) int { return d.con(3, d.v(20)) }, []int{20}},
		"function":     {func(d *desk) int { return d.fn(20, d.tuple(d.v(20), d.v(21))) }, []int{21}},
		"application":  {func(d *desk) int { return d.app(d.v(21), d.v(20)) }, []int{20, 21}},
		"let":          {func(d *desk) int { return d.let(20, d.tuple(d.v(20), d.v(21)), d.tuple(d.v(20), d.v(22))) }, []int{20, 21, 22}},
		"let's second": {func(d *desk) int { return d.let(20, d.v(21), d.tuple(d.v(20), d.v(22))) }, []int{21, 22}},
		"fix": {func(d *desk) int {
			return d.fix([]int{20, 21}, d.fn(22, d.tuple(d.v(20), d.v(21), d.v(22), d.v(23))), d.fn(24, d.v(22)), d.tuple(d.v(20), d.v(21), d.v(24)))
		}, []int{22, 23, 24}},
		"case":               {func(d *desk) int { return d.choose([]api.Key{kInt(9)}, d.v(22), d.v(21), d.v(20)) }, []int{20, 21, 22}},
		"raise":              {func(d *desk) int { return d.raise(d.v(20)) }, []int{20}},
		"handle":             {func(d *desk) int { return d.handle(d.v(20), 20, d.tuple(d.v(20), d.v(21))) }, []int{20, 21}},
		"handle's second":    {func(d *desk) int { return d.handle(d.v(22), 20, d.tuple(d.v(20), d.v(21))) }, []int{21, 22}},
		"primitive":          {func(d *desk) int { return d.prim("+", d.v(20), d.v(21)) }, []int{6, 20, 21}},
		"raises two":         {func(d *desk) int { return d.prim("floor", d.i(1)) }, []int{4, 6}},
		"raises none":        {func(d *desk) int { return d.prim("+ real", d.i(1), d.i(1)) }, nil},
		"its own name":       {func(d *desk) int { return d.let(6, d.i(1), d.prim("div", d.v(6), d.i(1))) }, []int{3}},
		"within and without": {func(d *desk) int { x := d.tuple(d.v(20)); return d.app(d.fn(20, x), x) }, []int{20}},
		"twice bound":        {func(d *desk) int { x := d.v(20); return d.let(20, d.fn(20, x), d.fn(20, x)) }, nil},
		"0 and a far one":    {func(d *desk) int { return d.tuple(d.v(1<<63-1), d.v(0)) }, []int{0, 1<<63 - 1}},
	} {
		d := &desk{}
		root := c.write(d)
		if got := Free(d.l, root); !slices.Equal(got, c.want) {
			t.Errorf("%s: %v; want %v", name, got, c.want)
		}
	}
}

// P11.2: each primitive has the variables of its Raises.
func TestFreeOfPrimitives(t *testing.T) {
	for i, p := range api.Prims() {
		l := []api.Term{{Kind: api.LVar, N: 100}, {Kind: api.LPrim, N: i, Args: make([]int, p.Args)}}
		want := append(slices.Sorted(slices.Values(p.Raises)), 100)
		if got := Free(l, 1); !slices.Equal(got, want) {
			t.Errorf("%s: %v; want %v", p.Name, got, want)
		}
	}
}

// P11.2: no node, Args that are not lower, and nodes without form.
func TestFreeOfStrangeNodes(t *testing.T) {
	l := []api.Term{
		{Kind: api.LVar, N: 20},
		{Kind: api.LTuple, Args: []int{0, 1, 2, -1, 1 << 62, -1 << 63, 0}},
		{Kind: api.LLet, N: 20, Args: []int{9, 0}},
		{Kind: api.LLet, N: 20, Args: []int{0, 9}},
		{Kind: api.LLet, N: 20, Args: []int{0}},
		{Kind: api.LHandle, N: 20},
		{Kind: api.LFn, N: 20},
		{Kind: api.LFix, Args: []int{0}},
		{Kind: api.LFix, Vars: []int{20, 20}, Args: []int{0}},
		{Kind: api.LPrim, N: -1, Args: []int{0}},
		{Kind: api.LPrim, N: 1000, Args: []int{0}},
		{Kind: api.LPrim, N: placeOf("div")},
		{Kind: 77, N: 20, Args: []int{0}, Vars: []int{4}},
		{Kind: api.LCase},
		{},
		{Kind: api.LLet, N: 20, Args: []int{12, 0, 0}},
		{Kind: api.LHandle, N: 20, Args: []int{12, 0, 12, 0}},
		{Kind: api.LFn, N: 20, Args: []int{0, 0}},
		{Kind: api.LPrim, N: len(api.Prims())},
		{Kind: api.LApp, Args: []int{13, 0, 11}},
		{Kind: api.LVar, N: -3},
	}
	for i, want := range [][]int{{20}, {20}, nil, {20}, {20}, nil, nil, {20}, nil, {20}, {20}, {3, 6}, nil, nil, nil, {20}, {20}, nil, nil, {3, 6, 20}, {-3}} {
		if got := Free(l, i); !slices.Equal(got, want) {
			t.Errorf("of the node %d: %v; want %v", i, got, want)
		}
	}
	for _, root := range []int{-1, len(l), 1 << 62, -1 << 63} {
		if got := Free(l, root); len(got) != 0 {
			t.Errorf("of %d: %v", root, got)
		}
	}
	if got := Free(nil, 0); len(got) != 0 {
		t.Errorf("of no nodes: %v", got)
	}
}

// freeModel is what is free in a node by the words, for nodes that have their form.
func freeModel(l []api.Term, root int) map[int]bool {
	x := l[root]
	set := map[int]bool{}
	add := func(a int, bound ...int) {
		part := freeModel(l, a)
		for _, v := range bound {
			delete(part, v)
		}
		maps.Copy(set, part)
	}
	switch x.Kind {
	case api.LVar:
		set[x.N] = true
	case api.LFn:
		add(x.Args[0], x.N)
	case api.LLet, api.LHandle:
		add(x.Args[0])
		add(x.Args[1], x.N)
	case api.LFix:
		for _, a := range x.Args {
			add(a, x.Vars...)
		}
	case api.LPrim:
		for _, v := range api.Prims()[x.N].Raises {
			set[v] = true
		}
		fallthrough
	default:
		for _, a := range x.Args {
			add(a)
		}
	}
	return set
}

// scrap is a node at random over those of a desk.
func scrap(r *rand.Rand, d *desk) int {
	v := func() int { return 1 + r.Intn(9) }
	a := func() int { return len(d.l) - 1 - r.Intn(min(len(d.l), 4)) }
	f := func() int { return d.fn(v(), a()) }
	switch r.Intn(9) {
	case 0:
		return d.v(v())
	case 1:
		return f()
	case 2:
		return d.let(v(), a(), a())
	case 3:
		return d.handle(a(), v(), a())
	case 4:
		x := a()
		return d.fix([]int{v()}, f(), x)
	case 5:
		x, y := f(), a()
		return d.fix([]int{v(), v()}, x, f(), y)
	case 6:
		return d.prim("div", a(), a())
	case 7:
		return d.tuple(a(), a(), a())
	}
	return d.raise(a())
}

// P11.1, P11.2: nodes at random, at several places.
func TestFreeRandom(t *testing.T) {
	for seed := range 2000 {
		r := rand.New(rand.NewSource(int64(seed)))
		d := &desk{}
		d.v(1)
		for range 4 + r.Intn(9) {
			scrap(r, d)
		}
		for root := range d.l {
			want := slices.Sorted(maps.Keys(freeModel(d.l, root)))
			if got := Free(d.l, root); !slices.Equal(got, want) {
				t.Fatalf("seed %d: %v of %d: %v; want %v", seed, d.l, root, got, want)
			}
			e := api.OK
			if len(want) > 0 {
				e = api.ErrFree
			}
			if got := Check(d.program(root)); got != e {
				t.Fatalf("seed %d: Check: %d; want %d", seed, got, e)
			}
		}
	}
}

// P11.2: there is no end to how many nodes are gone over, how deeply they are nested, how often they stand somewhere.
func TestFreeOfMany(t *testing.T) {
	d := &desk{}
	x := d.v(5)
	for i := range 400000 {
		x = d.let(i, d.v(i+1000), x)
	}
	if l := Free(d.l, x); len(l) != 1000 || l[0] != 400000 { // all others are bound further out
		t.Errorf("%d are free", len(l))
	}
	d = &desk{}
	x = d.tuple(d.v(7), d.v(8))
	for range 100 {
		x = d.fn(7, d.tuple(x, x, x))
	}
	if l := Free(d.l, x); !slices.Equal(l, []int{8}) {
		t.Errorf("%v", l)
	}
}
