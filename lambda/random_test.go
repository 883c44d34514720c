package lambda

import (
	"math/rand"
	"slices"
	"testing"

	"kiln/api"
)

func sameOutcome(a, b api.Outcome) bool {
	return slices.Equal(a.Out, b.Out) && a.Status == b.Status && a.Exn == b.Exn && a.Steps == b.Steps
}

// lines are what the programs at random read.
func lines() []string { return []string{"12", "", "3.5 x"} }

// wild is a program at random; of some of them a node has another type than it must.
func wild(seed int64) api.Lambda {
	r := rand.New(rand.NewSource(seed))
	g := &grower{desk: &desk{}, r: r}
	if r.Intn(3) == 0 {
		g.wrong = 60
	}
	return g.program(2 + r.Intn(6))
}

// heldRun holds a program at random against the model, with some fuel.
func heldRun(t *testing.T, seed int64, p api.Lambda, fuel int) api.Outcome {
	t.Helper()
	got, e := Run(p, lines(), fuel)
	if want := modelRun(p, lines(), fuel); e != api.OK || !sameOutcome(got, want) {
		t.Fatalf("seed %d with %d: %s, %d steps, %d; want %s, %d steps", seed, fuel, showOutcome(got), got.Steps, e, showOutcome(want), want.Steps)
	}
	return got
}

// P11.3: programs at random do what the chapter's words say.
func TestRandom(t *testing.T) {
	ends, codes := map[api.Status]int{}, map[string]int{}
	for seed := range int64(4000) {
		p := wild(seed)
		o := heldRun(t, seed, p, 3000)
		ends[o.Status]++
		codes[o.Exn]++
		heldRun(t, seed, p, int(seed%40))
		heldRun(t, seed, p, o.Steps-1)
		heldRun(t, seed, p, o.Steps)
	}
	for _, s := range []api.Status{api.Done, api.Uncaught, api.OutOfFuel, api.Stuck} {
		if ends[s] < 50 {
			t.Errorf("few programs end so: %v", ends)
		}
	}
	for _, name := range []string{"Chr", "Div", "Overflow", "Subscript"} {
		if codes[name] < 5 {
			t.Errorf("few programs raise these: %v", codes)
		}
	}
	t.Log(ends, codes)
}

// P11.4: with more fuel a run that ended otherwise ends the same; one out of fuel has printed a beginning.
func TestMoreFuel(t *testing.T) {
	for seed := range int64(400) {
		p := wild(seed)
		last, e := Run(p, lines(), 2000)
		if e != api.OK {
			t.Fatal(e)
		}
		for fuel := min(last.Steps+3, 700); fuel >= 0; fuel-- {
			o, _ := Run(p, lines(), fuel)
			switch {
			case o.Status != api.OutOfFuel && !sameOutcome(o, last):
				t.Fatalf("seed %d with %d: %s; with more: %s", seed, fuel, showOutcome(o), showOutcome(last))
			case len(o.Out) > len(last.Out) || !slices.Equal(o.Out, last.Out[:len(o.Out)]):
				t.Fatalf("seed %d with %d: %q; with more: %q", seed, fuel, o.Out, last.Out)
			case o.Status == api.OutOfFuel && o.Steps != fuel:
				t.Fatalf("seed %d with %d: %d steps", seed, fuel, o.Steps)
			}
		}
		more, _ := Run(p, lines(), api.MaxFuel/1024)
		if last.Status != api.OutOfFuel && !sameOutcome(more, last) {
			t.Fatalf("seed %d: %s; with more: %s", seed, showOutcome(last), showOutcome(more))
		}
	}
}

// renamed is a program with other numbers for its variables, unlike ones, but for those of the exceptions.
func renamed(r *rand.Rand, p api.Lambda) api.Lambda {
	names := map[int]int{}
	taken := map[int]bool{}
	other := func(v int) int {
		if v <= 8 {
			return v
		}
		for names[v] == 0 {
			n := 9 + r.Intn(60)
			if r.Intn(4) == 0 {
				n = 9 + r.Intn(1<<63-1-9)
			}
			if !taken[n] {
				names[v], taken[n] = n, true
			}
		}
		return names[v]
	}
	q := api.Lambda{Root: p.Root}
	for _, x := range p.Nodes {
		switch x.Kind {
		case api.LVar, api.LFn, api.LLet, api.LHandle:
			x.N = other(x.N)
		case api.LFix:
			var l []int
			for _, v := range x.Vars {
				l = append(l, other(v))
			}
			x.Vars = l
		}
		q.Nodes = append(q.Nodes, x)
	}
	return q
}

// writer writes a program out, each node as often as it stands somewhere, and each bound variable with a number of its own.
type writer struct {
	from []api.Term
	desk
	next int
}

func (w *writer) fresh(v int) int {
	if v <= 8 {
		return v
	}
	w.next++
	return 1000 + w.next*7%100003
}

type naming struct {
	v, as int
	next  *naming
}

func (n *naming) of(v int) int {
	for ; n != nil; n = n.next {
		if n.v == v {
			return n.as
		}
	}
	return v
}

// write is -1, if the program becomes too large.
func (w *writer) write(i int, names *naming) int {
	x := w.from[i]
	inner := names
	var args []int
	first := 0 // of the Args in which x binds
	switch x.Kind {
	case api.LVar:
		x.N = names.of(x.N)
	case api.LFn, api.LLet, api.LHandle:
		v := w.fresh(x.N)
		inner = &naming{x.N, v, names}
		x.N = v
		first = len(x.Args) - 1
	case api.LFix:
		var l []int
		for n, v := range x.Vars {
			if slices.Contains(x.Vars[:n], v) { // the first one counts: nobody knows this one
				l = append(l, w.fresh(99))
				continue
			}
			l = append(l, w.fresh(v))
			inner = &naming{v, l[n], inner}
		}
		x.Vars = l
	}
	for n, a := range x.Args {
		scope := inner
		if n < first {
			scope = names
		}
		at := w.write(a, scope)
		if at < 0 || len(w.l) > 20000 {
			return -1
		}
		args = append(args, at)
	}
	x.Args = args
	return w.put(x)
}

// P11.5: other numbers for bound variables change nothing: for all variables of one number the same other one, or for each place where one is bound its own.
func TestNames(t *testing.T) {
	written := 0
	for seed := range int64(2000) {
		r := rand.New(rand.NewSource(seed))
		p := wild(seed)
		want, _ := Run(p, lines(), 2000)
		if got, e := Run(renamed(r, p), lines(), 2000); e != api.OK || !sameOutcome(got, want) {
			t.Fatalf("seed %d: %s, %d; want %s", seed, showOutcome(got), e, showOutcome(want))
		}
		w := &writer{from: p.Nodes}
		if root := w.write(p.Root, nil); root >= 0 {
			written++
			if got, e := Run(w.program(root), lines(), 2000); e != api.OK || !sameOutcome(got, want) {
				t.Fatalf("seed %d, written out: %s, %d; want %s", seed, showOutcome(got), e, showOutcome(want))
			}
		}
	}
	if written < 1000 {
		t.Errorf("only %d programs were written out", written)
	}
}

// FuzzPrograms holds programs at random against the model.
func FuzzPrograms(f *testing.F) {
	for seed := range int64(5) {
		f.Add(seed, uint16(1000*seed))
	}
	f.Fuzz(func(t *testing.T, seed int64, fuel uint16) {
		heldRun(t, seed, wild(seed), int(fuel)%4000)
	})
}
