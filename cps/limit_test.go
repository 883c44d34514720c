package cps

import (
	"math/rand"
	"testing"

	"kiln/api"
	"kiln/lambda"
)

// mostSafe is up to how many nodes, written out, Convert is never ErrMany.
const mostSafe = 8192

// twiceOver writes terms each of the one ahead twice, so many times.
func (p *pen) twiceOver(first, times int, write func(a, b int) int) int {
	for range times {
		first = write(first, first)
	}
	return first
}

// sharing are ways to write a node that has another one twice; some of these go over both, some over one of them.
func sharing(d *pen) map[string]func(a, b int) int {
	name := func() int { return d.prim("exn", d.s("E")) }
	return map[string]func(a, b int) int{
		"tuples":       func(a, b int) int { return d.tuple(a, b) },
		"lets":         func(a, b int) int { return d.let(20, a, b) },
		"applications": func(a, b int) int { return d.app(d.fn(20, a), b) },
		"functions":    func(a, b int) int { return d.let(20, d.fn(20, a), b) },
		"cases":        func(a, b int) int { return d.choose([]api.Key{kInt(0)}, a, b) },
		"branches":     func(a, b int) int { return d.choose([]api.Key{kInt(0)}, d.i(0), a, b) },
		"handles":      func(a, b int) int { return d.handle(d.let(20, a, d.raise(d.tuple(name(), d.i(0)))), 20, b) },
		"no handles":   func(a, b int) int { return d.handle(a, 20, b) },
		"fixes":        func(a, b int) int { return d.fix([]int{20}, d.fn(21, a), d.let(22, d.app(d.v(20), d.i(0)), b)) },
		"primitives":   func(a, b int) int { return d.prim("+", a, b) },
		"divisions":    func(a, b int) int { return d.prim("div", a, d.let(20, b, d.i(7))) },
		"raises":       func(a, b int) int { return d.let(20, a, d.handle(d.raise(d.i(1)), 20, b)) },
		"printing":     func(a, b int) int { return d.let(20, d.print("p"), d.let(20, a, b)) },
	}
}

// P13.4: programs whose nodes stand at several places and that, written out, have 8192 nodes or fewer are never too many; larger ones may be. Those that are not do what they did, both ways within the bounds, however few nodes they have.
func TestSharedNodes(t *testing.T) {
	t.Parallel()
	for name := range sharing(&pen{}) {
		for _, times := range []int{0, 1, 2, 3, 6, 9, 11, 12, 13, 39} {
			d := &pen{}
			p := d.whole(d.let(19, d.twiceOver(d.i(0), times, sharing(d)[name]), d.print("end")))
			q, e := Convert(p)
			n := unfolded(p)
			switch {
			case e == api.OK && n <= 2*mostSafe:
				held(t, name, p, nil, 2*mostSafe)
			case e == api.OK:
				if Check(q) != api.OK {
					t.Errorf("%s %d times: %d", name, times, Check(q))
				}
			case e != api.ErrMany || n <= mostSafe || len(q.Nodes) != 0 || q.Root != 0:
				t.Errorf("%s %d times: %d, %d nodes of %d", name, times, e, len(q.Nodes), n)
			}
		}
	}
}

// P13.4: of the sizes 8191, 8192 and 8193, written out.
func TestSafeSize(t *testing.T) {
	t.Parallel()
	for name := range sharing(&pen{}) {
		for _, size := range []int{mostSafe - 1, mostSafe, mostSafe + 1} {
			d := &pen{}
			write := sharing(d)[name]
			root, l := d.i(0), []int{}
			for unfolded(d.whole(root)) < size/2-100 {
				root = write(root, root)
				l = append(l, root)
			}
			for i := len(l) - 1; i >= 0; i-- { // what is missing is put ahead, the large pieces first
				for unfolded(d.whole(d.let(19, l[i], root))) <= size {
					root = d.let(19, l[i], root)
				}
			}
			for {
				missing := size - unfolded(d.whole(root))
				if missing == 0 {
					break
				}
				if missing%2 == 0 {
					root = d.let(19, d.i(1), root)
				} else {
					root = d.con(1, root)
				}
			}
			p := d.whole(root)
			if unfolded(p) != size {
				t.Fatalf("%s: %d", name, unfolded(p))
			}
			if q, e := Convert(p); e == api.OK {
				held(t, name, p, nil, 20000)
			} else if e != api.ErrMany || size <= mostSafe || len(q.Nodes) != 0 || q.Root != 0 {
				t.Errorf("%s of %d nodes: %d, %d nodes", name, size, e, len(q.Nodes))
			}
		}
	}
}

// P13.4: nodes at random over one another, most of which are stuck; each of these ends, too.
func TestSharedRandom(t *testing.T) {
	t.Parallel()
	told := map[api.Errno]int{}
	for seed := range int64(800) {
		r := rand.New(rand.NewSource(seed))
		d := &pen{}
		d.v(1)
		d.prim("ref", d.s("E"))
		for range 3 + r.Intn(50) {
			heap(r, d)
		}
		p := d.whole(len(d.l) - 1)
		if lambda.Check(p) != api.OK {
			p = d.whole(d.let(9, d.i(4), len(d.l)-1))
		}
		q, e := Convert(p)
		told[e]++
		if e == api.OK && len(q.Nodes) < 20000 {
			held(t, "seed "+text(int(seed)), p, lines(), 500)
		} else if e != api.OK && (e != api.ErrMany || unfolded(p) <= mostSafe || len(q.Nodes) != 0) {
			t.Fatalf("seed %d: %d of %d nodes", seed, e, unfolded(p))
		}
	}
	if told[api.OK] < 300 {
		t.Errorf("few are such: %v", told)
	}
}

// heap writes a node at random over those of a pen, with variables from 1 to 9.
func heap(r *rand.Rand, d *pen) int {
	v := func() int { return 1 + r.Intn(9) }
	a := func() int { return len(d.l) - 1 - r.Intn(min(len(d.l), 5)) }
	f := func() int { return d.fn(v(), a()) }
	switch r.Intn(15) {
	case 0:
		return d.v(v())
	case 1:
		return f()
	case 2:
		return d.let(v(), a(), a())
	case 3:
		return d.handle(a(), v(), a())
	case 4:
		x := a()
		return d.fix([]int{v()}, f(), x)
	case 5:
		x, y := f(), a()
		return d.fix([]int{v(), v()}, x, f(), y)
	case 6:
		x := a()
		return d.handle(d.raise(x), v(), a())
	case 7:
		return d.tuple(a(), a(), a())
	case 8:
		return d.app(f(), a())
	case 9:
		return d.choose([]api.Key{kInt(0), kCon(1)}, a(), a(), a(), a())
	case 10:
		return d.con(1, a())
	case 11:
		return d.let(v(), d.i(int64(r.Intn(3))), d.prim("div", d.i(7), d.v(v())))
	case 12:
		return d.let(v(), a(), d.say(d.i(int64(r.Intn(9)))))
	case 13:
		x := a()
		return d.raise(x)
	}
	return d.field(r.Intn(2), d.tuple(a(), a()))
}

// P13.4: up to the limit there is a program, above it there is none.
func TestLimit(t *testing.T) {
	t.Parallel()
	for name, write := range map[string]func(d *pen, ahead int) int{
		"tuples":     func(d *pen, ahead int) int { return d.tuple(ahead) },
		"sums":       func(d *pen, ahead int) int { return d.prim("+", ahead, d.i(1)) },
		"functions":  func(d *pen, ahead int) int { return d.fn(20, ahead) },
		"handles":    func(d *pen, ahead int) int { return d.handle(ahead, 20, d.i(1)) },
		"cases":      func(d *pen, ahead int) int { return d.choose([]api.Key{kInt(1)}, ahead, d.i(1), d.i(2)) },
		"calls":      func(d *pen, ahead int) int { return d.app(d.fn(20, d.v(20)), ahead) },
		"fixes":      func(d *pen, ahead int) int { return d.fix([]int{20}, d.fn(21, d.i(1)), ahead) },
		"large ones": func(d *pen, ahead int) int { return d.tuple(ahead, d.print("a"), d.i(1), d.i(2), d.i(3), d.i(4)) },
	} {
		of := func(n int) (api.Cps, api.Errno) {
			d := &pen{}
			root := d.i(0)
			for range n {
				root = write(d, root)
			}
			return Convert(d.whole(root))
		}
		few, _ := of(100)
		more, _ := of(200)
		each := (len(more.Nodes) - len(few.Nodes)) / 100
		most := 100 + (api.MaxNodes-len(few.Nodes))/each
		if q, e := of(most); e != api.OK || Check(q) != api.OK || len(q.Nodes) != len(few.Nodes)+each*(most-100) {
			t.Errorf("%s: %d of %d: %d nodes", name, e, most, len(q.Nodes))
		}
		if q, e := of(most + 1); e != api.ErrMany || len(q.Nodes) != 0 || q.Root != 0 {
			t.Errorf("%s: %d of %d: %d nodes", name, e, most+1, len(q.Nodes))
		}
	}
}

// P13.4: what is nested deeply, in each part of each kind of node.
func TestNested(t *testing.T) {
	t.Parallel()
	const deep = 30000
	for name, write := range map[string]func(d *pen, x int) int{
		"tuples":         func(d *pen, x int) int { return d.tuple(x) },
		"fields":         func(d *pen, x int) int { return d.field(0, d.con(1, x)) },
		"functions":      func(d *pen, x int) int { return d.fn(20, x) },
		"called":         func(d *pen, x int) int { return d.app(d.fn(20, x), d.i(1)) },
		"arguments":      func(d *pen, x int) int { return d.app(d.fn(20, d.v(20)), x) },
		"lets ahead":     func(d *pen, x int) int { return d.let(20, x, d.i(1)) },
		"lets behind":    func(d *pen, x int) int { return d.let(20, d.i(1), x) },
		"fixes":          func(d *pen, x int) int { return d.fix([]int{20}, d.fn(21, d.i(1)), x) },
		"in fixes":       func(d *pen, x int) int { return d.fix([]int{20}, d.fn(21, x), d.i(1)) },
		"cases":          func(d *pen, x int) int { return d.choose(nil, x, d.i(1)) },
		"branches":       func(d *pen, x int) int { return d.choose([]api.Key{kInt(2)}, d.i(2), x) },
		"other branches": func(d *pen, x int) int { return d.choose([]api.Key{kInt(2)}, d.i(1), d.i(1), x) },
		"raises":         func(d *pen, x int) int { return d.handle(d.raise(x), 20, d.i(1)) },
		"handles":        func(d *pen, x int) int { return d.handle(x, 20, d.i(1)) },
		"handlers":       func(d *pen, x int) int { return d.handle(d.raise(d.i(1)), 20, x) },
		"primitives":     func(d *pen, x int) int { return d.prim("ref", x) },
		"raised codes":   func(d *pen, x int) int { return d.let(20, d.handle(d.prim("div", d.i(1), d.i(0)), 20, d.i(1)), x) },
	} {
		d := &pen{}
		root := d.i(0)
		for len(d.l) < deep {
			root = write(d, root)
		}
		p := d.whole(d.seq(root, d.print("end")))
		q := converts(t, name, p)
		meets(t, name, p, q, nil, 8*deep)
		b, _ := Run(q, nil, 40*deep)
		if showOutcome(b) != `"end" done` {
			t.Errorf("%s: %s", name, showOutcome(b))
		}
		meetsBack(t, name, p, q, nil, b.Steps)
	}
}

// P13.4: as many nodes as there may be, and one more.
func TestExactLimit(t *testing.T) {
	t.Parallel()
	for _, ends := range []func(d *pen, x int) int{
		func(d *pen, x int) int { return x },
		func(d *pen, x int) int { return d.app(d.fn(20, d.v(20)), x) },
	} {
		of := func(n, wide int) (api.Cps, api.Errno) {
			d := &pen{}
			root := d.i(0)
			for range n {
				root = d.tuple(root) // a move and an atom
			}
			for range wide {
				root = d.tuple(root, d.i(1)) // and another atom
			}
			return Convert(d.whole(ends(d, root)))
		}
		first, _ := of(0, 0)
		missing := api.MaxNodes - len(first.Nodes)
		for more := range 4 { // two of them are below the limit, and at it
			n := missing - 1 + more
			wide := n % 2
			q, e := of((n-3*wide)/2, wide)
			if more < 2 && (e != api.OK || Check(q) != api.OK || len(q.Nodes) != api.MaxNodes-1+more) || more >= 2 && (e != api.ErrMany || len(q.Nodes) != 0) {
				t.Errorf("%d of %d: %d nodes", e, n, len(q.Nodes))
			}
		}
	}
}

// P13.4: the call ends soon, however often nodes of which nothing is made stand in a program of many nodes.
func TestSoonMany(t *testing.T) {
	t.Parallel()
	d := &pen{}
	root := d.twiceOver(d.i(0), 60, func(a, b int) int { return d.let(20, a, b) })
	for range 50000 {
		root = d.let(20, d.i(1), root)
	}
	if q, e := Convert(d.program(root)); e != api.ErrMany || len(q.Nodes) != 0 {
		t.Errorf("%d, %d nodes", e, len(q.Nodes))
	}
}
