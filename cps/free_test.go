package cps

import (
	"maps"
	"math/rand"
	"slices"
	"testing"

	"kiln/api"
)

// P13.2: the free variables of each kind of node.
func TestFree(t *testing.T) {
	for name, c := range map[string]struct {
		write func(d *desk) int
		want  []int
	}{
		"variable":      {func(d *desk) int { return d.v(20) }, []int{20}},
		"int":           {func(d *desk) int { return d.i(20) }, nil},
		"real":          {func(d *desk) int { return d.r(20) }, nil},
		"string":        {func(d *desk) int { return d.s("20") }, nil},
		"tuple":         {func(d *desk) int { return d.tuple(23, d.v(22), d.v(20), d.v(21), d.v(20), d.halt(d.v(24))) }, []int{20, 21, 22, 24}},
		"tuple's own":   {func(d *desk) int { return d.tuple(23, d.v(22), d.halt(d.v(23))) }, []int{22}},
		"tuple of it":   {func(d *desk) int { return d.tuple(23, d.v(23), d.halt(d.v(23))) }, []int{23}},
		"constructor":   {func(d *desk) int { return d.con(23, 3, d.v(20), d.call(d.v(23), d.v(21))) }, []int{20, 21}},
		"field":         {func(d *desk) int { return d.field(23, 3, d.v(20), d.call(d.v(23), d.v(21))) }, []int{20, 21}},
		"primitive":     {func(d *desk) int { return d.prim(23, "<", d.v(20), d.v(21), d.call(d.v(23), d.v(22))) }, []int{20, 21, 22}},
		"when it raise": {func(d *desk) int { return d.prim(23, "+", d.v(20), d.i(1), d.halt(d.v(23)), d.call(d.v(23), d.v(6))) }, []int{6, 20}},
		"fix": {func(d *desk) int {
			return d.fix([]int{20, 21}, d.fn([]int{22}, d.call(d.v(20), d.v(21), d.v(22), d.v(23))), d.fn([]int{24}, d.halt(d.v(22))), d.call(d.v(20), d.v(21), d.v(24)))
		}, []int{22, 23, 24}},
		"function":            {func(d *desk) int { return d.fn([]int{20, 22}, d.call(d.v(20), d.v(21), d.v(22))) }, []int{21}},
		"function of nothing": {func(d *desk) int { return d.fn(nil, d.halt(d.v(20))) }, []int{20}},
		"call":                {func(d *desk) int { return d.call(d.v(21), d.v(20), d.v(21)) }, []int{20, 21}},
		"case":                {func(d *desk) int { return d.choose([]api.Key{kInt(9)}, d.v(22), d.halt(d.v(21)), d.fail(d.v(20))) }, []int{20, 21, 22}},
		"halt":                {func(d *desk) int { return d.halt(d.v(20)) }, []int{20}},
		"fail":                {func(d *desk) int { return d.fail(d.v(20)) }, []int{20}},
		"within and without":  {func(d *desk) int { x := d.halt(d.v(20)); return d.choose(nil, d.i(1), d.tuple(20, d.i(1), x), x) }, []int{20}},
		"twice bound": {func(d *desk) int {
			x := d.halt(d.v(20))
			return d.choose(nil, d.i(1), d.tuple(20, d.i(1), x), d.con(20, 1, d.i(1), x))
		}, nil},
		"0 and a far one": {func(d *desk) int { return d.call(d.v(1<<63-1), d.v(0)) }, []int{0, 1<<63 - 1}},
	} {
		d := &desk{}
		root := c.write(d)
		if got := Free(d.l, root); !slices.Equal(got, c.want) {
			t.Errorf("%s: %v; want %v", name, got, c.want)
		}
	}
}

// P13.2: no node, Args that are not lower, and nodes without form: what they bind, they bind in all Args that are no atoms.
func TestFreeOfStrangeNodes(t *testing.T) {
	const x, y, haltX, haltY = 0, 1, 2, 3 // the variables 20 and 21, and moves with them
	for name, c := range map[string]struct {
		f    api.Flow
		want []int
	}{
		"Args that are not lower": {api.Flow{Kind: api.JCall, Args: []int{x, 4, 5, -1, 1 << 62, -1 << 63, y}}, []int{20, 21}},
		"a tuple's, likewise":     {api.Flow{Kind: api.JTuple, N: 20, Args: []int{4, haltX, -1, y, 99}}, []int{21}},
		"a fix's, likewise":       {api.Flow{Kind: api.JFix, Vars: []int{20}, Args: []int{4, haltX, -1, haltY, 99}}, []int{21}},
		"a tuple of a move":       {api.Flow{Kind: api.JTuple, N: 20, Args: []int{haltX, x}}, []int{20}},
		"a tuple of moves":        {api.Flow{Kind: api.JTuple, N: 20, Args: []int{haltX, haltX, haltY}}, []int{21}},
		"a tuple without a move":  {api.Flow{Kind: api.JTuple, N: 20, Args: []int{x, x}}, []int{20}},
		"a constructor's moves":   {api.Flow{Kind: api.JCon, N: 20, Args: []int{haltX, y, haltX}}, []int{21}},
		"a field's moves":         {api.Flow{Kind: api.JField, N: 20, Args: []int{haltX, y, haltX, x}}, []int{20, 21}},
		"a primitive's moves":     {api.Flow{Kind: api.JPrim, N: 20, M: -1, Args: []int{haltX, y, haltX, haltX}}, []int{21}},
		"a tuple of nothing":      {api.Flow{Kind: api.JTuple, N: 20}, nil},
		"a fix of atoms":          {api.Flow{Kind: api.JFix, Vars: []int{20}, Args: []int{x, x}}, []int{20}},
		"a fix of one atom":       {api.Flow{Kind: api.JFix, Vars: []int{20}, Args: []int{x}}, []int{20}},
		"a fix of moves":          {api.Flow{Kind: api.JFix, Vars: []int{20}, Args: []int{haltX, haltY, haltX}}, []int{21}},
		"an atom where a fix has": {api.Flow{Kind: api.JFix, Vars: []int{20, 21}, Args: []int{haltX, x, haltY}}, []int{20}},
		"an atom as what is then": {api.Flow{Kind: api.JFix, Vars: []int{20, 21}, Args: []int{haltX, haltY, y}}, []int{21}},
		"a fix without functions": {api.Flow{Kind: api.JFix, Args: []int{x, haltY}}, []int{20, 21}},
		"a fix of equals":         {api.Flow{Kind: api.JFix, Vars: []int{20, 20}, Args: []int{haltX}}, nil},
		"a function of an atom":   {api.Flow{Kind: api.JFn, Vars: []int{20}, Args: []int{x}}, []int{20}},
		"a function of atoms":     {api.Flow{Kind: api.JFn, Vars: []int{20}, Args: []int{x, y}}, []int{20, 21}},
		"a function of both":      {api.Flow{Kind: api.JFn, Vars: []int{20, 21}, Args: []int{haltX, y}}, []int{21}},
		"a function of moves":     {api.Flow{Kind: api.JFn, Vars: []int{21, 21}, Args: []int{haltX, haltY}}, []int{20}},
		"a function of nothing":   {api.Flow{Kind: api.JFn, Vars: []int{20}}, nil},
		"a call of moves":         {api.Flow{Kind: api.JCall, N: 20, Vars: []int{20}, Args: []int{haltX, haltY}}, []int{20, 21}},
		"a case of moves":         {api.Flow{Kind: api.JCase, N: 20, Args: []int{haltX, x}}, []int{20}},
		"a case of nothing":       {api.Flow{Kind: api.JCase}, nil},
		"a halt of two":           {api.Flow{Kind: api.JHalt, N: 20, Args: []int{haltX, y}}, []int{20, 21}},
		"a kind of flat programs": {api.Flow{Kind: api.JGo, N: 20, M: 20, Args: []int{x, y}}, []int{20, 21}},
		"no kind":                 {api.Flow{N: 20, Args: []int{x}, Vars: []int{20}}, nil},
		"a kind above":            {api.Flow{Kind: 77, N: 20, Args: []int{x}, Vars: []int{20}}, nil},
		"a kind below":            {api.Flow{Kind: -1, N: 20, Args: []int{x}}, nil},
		"an int with Args":        {api.Flow{Kind: api.JInt, N: 20, Args: []int{x}}, nil},
		"a variable with Args":    {api.Flow{Kind: api.JVar, N: 22, Args: []int{x}}, []int{22}},
		"a variable below 0":      {api.Flow{Kind: api.JVar, N: -3}, []int{-3}},
	} {
		l := []api.Flow{{Kind: api.JVar, N: 20}, {Kind: api.JVar, N: 21}, {Kind: api.JHalt, Args: []int{x}}, {Kind: api.JHalt, Args: []int{y}}, c.f, {Kind: api.JVar, N: 99}}
		if got := Free(l, 4); !slices.Equal(got, c.want) {
			t.Errorf("%s: %v; want %v", name, got, c.want)
		}
		for _, root := range []int{-1, len(l), 1 << 62, -1 << 63} {
			if got := Free(l, root); len(got) != 0 {
				t.Errorf("of %d: %v", root, got)
			}
		}
	}
	if got := Free(nil, 0); len(got) != 0 {
		t.Errorf("of no nodes: %v", got)
	}
}

// freeModel is what is free in a node by the words, of any form.
func freeModel(l []api.Flow, root int) map[int]bool {
	f := l[root]
	set := map[int]bool{}
	add := func(a int, bound ...int) {
		if a < 0 || a >= root {
			return
		}
		part := freeModel(l, a)
		for _, v := range bound {
			delete(part, v)
		}
		maps.Copy(set, part)
	}
	for _, a := range f.Args {
		atom := a >= 0 && a < root && l[a].Kind >= 1 && l[a].Kind <= 4
		switch f.Kind {
		case api.JTuple, api.JCon, api.JField, api.JPrim, api.JFix, api.JFn:
			binds := []int{f.N}
			if f.Kind == api.JFix || f.Kind == api.JFn {
				binds = f.Vars
			}
			if atom {
				binds = nil
			}
			add(a, binds...)
		case api.JCall, api.JCase, api.JHalt, api.JFail, api.JGo:
			add(a)
		}
	}
	if f.Kind == api.JVar {
		set[f.N] = true
	}
	return set
}

// checkModel is what Check says by the words of a program of few nodes.
func checkModel(p api.Cps) api.Errno {
	if p.Root < 0 || p.Root >= len(p.Nodes) {
		return api.ErrMove
	}
	met := map[int]bool{}
	var worst api.Errno
	var visit func(i int)
	say := func(e api.Errno) {
		if worst == 0 || e == api.ErrMove {
			worst = e
		}
	}
	visit = func(i int) {
		if met[i] {
			return
		}
		met[i] = true
		f := p.Nodes[i]
		if f.Kind >= 1 && f.Kind <= 4 {
			if e := formModel(f, ""); e != 0 {
				say(e)
			}
			return
		}
		var kinds []byte // of what stands in it: a, m, f
		for _, a := range f.Args {
			if a < 0 || a >= i {
				say(api.ErrMove)
				return
			}
			visit(a)
			k := byte('?')
			switch kind := p.Nodes[a].Kind; {
			case kind >= 1 && kind <= 4:
				k = 'a'
			case kind == api.JFn:
				k = 'f'
			case kind >= 5 && kind <= 14:
				k = 'm'
			}
			kinds = append(kinds, k)
		}
		if e := formModel(f, string(kinds)); e != 0 {
			say(e)
		}
	}
	visit(p.Root)
	if k := p.Nodes[p.Root].Kind; k < 5 || k > 14 || k == api.JFn {
		worst = api.ErrMove
	}
	if worst == 0 && len(freeModel(p.Nodes, p.Root)) > 0 {
		worst = api.ErrFree
	}
	return worst
}

// formModel is what Check says of a node in which nodes of some kinds stand.
func formModel(f api.Flow, kinds string) api.Errno {
	low := func(l ...int) bool { return slices.Min(append(l, 0)) < 0 }
	repeat := func(c string, n int) string {
		s := ""
		for range n {
			s += c
		}
		return s
	}
	bad := false
	switch f.Kind {
	case api.JVar:
		bad = low(f.N)
	case api.JInt:
		bad = f.Int < api.MinFix || f.Int > api.MaxFix
	case api.JReal, api.JStr:
		bad = len(f.Text) > 65536 && f.Kind == api.JStr
	case api.JTuple:
		bad = low(f.N) || len(kinds) < 2 || kinds != repeat("a", len(kinds)-1)+"m"
	case api.JCon, api.JField:
		bad = low(f.N, f.M) || kinds != "am"
	case api.JPrim:
		if low(f.N) {
			return api.ErrMove
		}
		if f.M < 0 || f.M >= len(api.Prims()) {
			return api.ErrPrims
		}
		p := api.Prims()[f.M]
		want := repeat("a", p.Args) + "m"
		if p.Raises != nil {
			want += "m"
		}
		if len(want) != len(kinds) {
			return api.ErrPrims
		}
		bad = want != kinds
	case api.JFix:
		bad = low(f.Vars...) || len(f.Vars) == 0 || kinds != repeat("f", len(f.Vars))+"m"
	case api.JFn:
		unlike := map[int]bool{}
		for _, v := range f.Vars {
			unlike[v] = true
		}
		bad = low(f.Vars...) || len(unlike) < len(f.Vars) || kinds != "m"
	case api.JCall:
		bad = kinds == "" || kinds != repeat("a", len(kinds))
	case api.JCase:
		bad = kinds != "a"+repeat("m", len(f.Keys)) && kinds != "a"+repeat("m", len(f.Keys)+1)
		for _, k := range f.Keys {
			bad = bad || k.Kind < 1 || k.Kind > 3
		}
	case api.JHalt, api.JFail:
		bad = kinds != "a"
	default:
		bad = true
	}
	if bad {
		return api.ErrMove
	}
	return 0
}

// scrap is a node at random over those of a desk, mostly with its form.
func scrap(r *rand.Rand, d *desk) int {
	v := func() int { return r.Intn(6) - r.Intn(20)/19 }
	pick := func(fits func(api.FlowKind) bool) int {
		for range 30 {
			if i := max(0, len(d.l)-1-r.Intn(min(len(d.l), 9))); fits(d.l[i].Kind) || r.Intn(60) == 0 {
				return i - r.Intn(200)/199 + r.Intn(200)/199*3
			}
		}
		return 0
	}
	a := func() int { return pick(func(k api.FlowKind) bool { return k <= 4 }) }
	m := func() int { return pick(func(k api.FlowKind) bool { return k > 4 && k != api.JFn }) }
	f := func() int { return pick(func(k api.FlowKind) bool { return k == api.JFn }) }
	switch r.Intn(16) {
	case 0, 1:
		return d.v(v())
	case 2:
		return d.fn([]int{v()}, m())
	case 3:
		return d.fn([]int{v(), v()}[:r.Intn(3)], m())
	case 4:
		return d.tuple(v(), a(), a(), m())
	case 5:
		return d.con(v(), v(), a(), m())
	case 6:
		return d.field(v(), v(), a(), m())
	case 7:
		return d.prim(v(), "<", a(), a(), m())
	case 8:
		return d.prim(v(), "+", a(), a(), m(), m())
	case 9:
		return d.fix([]int{v()}, f(), m())
	case 10:
		return d.fix([]int{v(), v()}, f(), f(), m())
	case 11:
		return d.call([]int{a(), a(), a()}[:r.Intn(40)/13]...)
	case 12:
		return d.choose([]api.Key{kInt(1), kCon(0)}[:r.Intn(3)], a(), m(), m())
	case 13:
		return d.fail(a())
	case 14:
		x := api.Flow{Kind: api.FlowKind(r.Intn(17)), N: v(), M: v() * 40, Vars: []int{v(), v()}[:r.Intn(3)], Keys: []api.Key{{Kind: api.KeyKind(r.Intn(5))}}[:r.Intn(2)]}
		for range r.Intn(5) {
			x.Args = append(x.Args, pick(func(api.FlowKind) bool { return true }))
		}
		return d.put(x)
	}
	return d.halt(a())
}

// P13.1, P13.2: nodes at random, at several places, with their form and without: as the words say.
func TestFreeRandom(t *testing.T) {
	told := map[api.Errno]int{}
	for seed := range 6000 {
		r := rand.New(rand.NewSource(int64(seed)))
		d := &desk{}
		d.fn([]int{2}, d.halt(d.v(1)))
		for range 4 + r.Intn(12) {
			scrap(r, d)
		}
		for root := range d.l {
			want := slices.Sorted(maps.Keys(freeModel(d.l, root)))
			if got := Free(d.l, root); !slices.Equal(got, want) {
				t.Fatalf("seed %d: %v of %d: %v; want %v", seed, d.l, root, got, want)
			}
			e := checkModel(d.program(root))
			told[e]++
			if got := Check(d.program(root)); got != e {
				t.Fatalf("seed %d: %v of %d: Check: %d; want %d", seed, d.l, root, got, e)
			}
			if _, got := Run(d.program(root), nil, 50); got != e {
				t.Fatalf("seed %d: Run: %d; want %d", seed, got, e)
			}
		}
	}
	for _, e := range []api.Errno{0, api.ErrMove, api.ErrPrims, api.ErrFree} {
		if told[e] < 200 {
			t.Errorf("few programs are such: %v", told)
		}
	}
	t.Log(told)
}

// P13.2: there is no end to how many nodes are gone over, how deeply they are nested, how often they stand somewhere.
func TestFreeOfMany(t *testing.T) {
	d := &desk{}
	x := d.done()
	for i := range 400000 {
		x = d.con(i, 0, d.v(i+1000), x)
	}
	if l := Free(d.l, x); len(l) != 1000 || l[0] != 400000 { // all others are bound further out
		t.Errorf("%d are free", len(l))
	}
	d = &desk{}
	x = d.call(d.v(7), d.v(8))
	for range 100 {
		x = d.fix([]int{7}, d.fn([]int{9}, x), d.choose(nil, d.v(7), x))
		x = d.choose([]api.Key{kInt(1)}, d.i(1), x, x)
	}
	if l := Free(d.l, x); !slices.Equal(l, []int{8}) {
		t.Errorf("%v", l)
	}
}
