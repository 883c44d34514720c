package lower

import (
	"strings"
	"testing"

	"kiln/api"
	"kiln/lambda"
	"kiln/modules"
)

// lines are what the programs at random read.
func lines() []string { return []string{"12", "", "3.5 x"} }

// grown are units of pieces of a program at random, one behind the other by one checker; none, if a layer below refuses one of them. (A pattern with dots may be of a record whose other labels nobody says.)
func grown(t testing.TB, pieces []string) []api.Unit {
	t.Helper()
	m := modules.New()
	var all []api.Unit
	for _, text := range pieces {
		l, root, ok := tryTree(text)
		if !ok {
			t.Fatalf("no tree: %s", text)
		}
		u, e := tryUnit(m, l, root)
		if e != api.OK {
			return nil
		}
		all = append(all, u)
	}
	return all
}

// pieces are the pieces of a program at random.
func pieces(seed int64) []string {
	g := newGrower(seed)
	return g.parts(2 + g.r.Intn(4))
}

// wholes goes over programs at random, each a unit of its own.
func wholes(t testing.TB, from, to int64, do func(seed int64, text string, l []api.Unit)) {
	t.Helper()
	refused := 0
	for seed := from; seed < to; seed++ {
		text := strings.Join(pieces(seed), "\n")
		l := grown(t, []string{text})
		if l == nil {
			refused++
			continue
		}
		do(seed, text, l)
	}
	if refused > int(to-from)/8 {
		t.Errorf("%d of %d programs are refused", refused, to-from)
	}
}

// P12.1, P12.3: programs at random do what the chapter's words say, step by step, and are never stuck.
func TestRandom(t *testing.T) {
	t.Parallel()
	ends, names := map[api.Status]int{}, map[string]int{}
	wholes(t, 0, 1000, func(seed int64, text string, l []api.Unit) {
		all, _ := Run(l, lines(), 20000)
		ends[all.Status]++
		names[all.Exn]++
		for _, fuel := range []int{20000, all.Steps, all.Steps - 1, all.Steps / 2, int(seed % 50)} {
			if fuel < 0 {
				continue
			}
			got, e := Run(l, lines(), fuel)
			want := modelRun(l, lines(), fuel)
			if e != api.OK || !alike(got, want) || got.Steps != want.Steps || got.Status == api.Stuck {
				t.Fatalf("seed %d with %d: %s, %d steps, %d; want %s, %d steps\n%s", seed, fuel, showOutcome(got), got.Steps, e, showOutcome(want), want.Steps, text)
			}
		}
	})
	if ends[api.Done] < 300 || ends[api.Uncaught] < 200 {
		t.Errorf("few programs end so: %v", ends)
	}
	for _, name := range []string{"Bind", "Match", "Chr", "Div", "Overflow", "Size", "Subscript", "E", "F", "G"} {
		if names[name] < 5 {
			t.Errorf("few programs raise these: %v", names)
		}
	}
}

// P12.2: the programs of these do what they do, both ways, with much and with little fuel.
func TestRandomLowered(t *testing.T) {
	t.Parallel()
	wholes(t, 1500, 2200, func(seed int64, text string, l []api.Unit) {
		heldRandom(t, seed, text, l, lowers(t, l))
	})
}

// P12.2: and so do those that they would be, if nodes stood at several places.
func TestRandomApart(t *testing.T) {
	t.Parallel()
	wholes(t, 2200, 2700, func(seed int64, text string, l []api.Unit) {
		p, _ := lowersApart(t, l)
		heldRandom(t, seed, text, l, p)
	})
}

func heldRandom(t *testing.T, seed int64, text string, l []api.Unit, p api.Lambda) {
	t.Helper()
	o, _ := Run(l, lines(), 3000)
	held(t, l, p, lines(), o.Steps)
	held(t, l, p, lines(), o.Steps/2)
	held(t, l, p, lines(), int(seed%40))
	b, _ := lambda.Run(p, lines(), 1<<21)
	if o.Status != api.OutOfFuel && !alike(o, b) || !begins(o, b) || b.Status == api.Stuck {
		t.Fatalf("seed %d: %s; lowered: %s\n%s", seed, showOutcome(o), showOutcome(b), text)
	}
	if t.Failed() {
		t.Fatalf("seed %d:\n%s", seed, text)
	}
}

// P12.4: with more fuel a run that ended otherwise ends the same; one out of fuel has printed a beginning.
func TestMoreFuel(t *testing.T) {
	t.Parallel()
	wholes(t, 2500, 2600, func(seed int64, text string, l []api.Unit) {
		last, _ := Run(l, lines(), 1500)
		for fuel := min(last.Steps+3, 600); fuel >= 0; fuel-- {
			o, e := Run(l, lines(), fuel)
			switch {
			case e != api.OK:
				t.Fatalf("seed %d with %d: %d", seed, fuel, e)
			case o.Status != api.OutOfFuel && (!alike(o, last) || o.Steps != last.Steps):
				t.Fatalf("seed %d with %d: %s; with more: %s", seed, fuel, showOutcome(o), showOutcome(last))
			case !begins(o, last) || o.Status == api.OutOfFuel && (o.Steps != fuel || o.Exn != ""):
				t.Fatalf("seed %d with %d: %s, %d steps; with more: %s", seed, fuel, showOutcome(o), o.Steps, showOutcome(last))
			}
		}
		more, _ := Run(l, lines(), api.MaxRun)
		if last.Status != api.OutOfFuel && (!alike(more, last) || more.Steps != last.Steps) || !begins(last, more) {
			t.Fatalf("seed %d: %s; with more: %s", seed, showOutcome(last), showOutcome(more))
		}
	})
}

// P12.5: units one behind the other do what one unit of all their declarations does, and so do their programs.
func TestParted(t *testing.T) {
	t.Parallel()
	for seed := range int64(200) {
		l := pieces(seed + 2700)
		one := grown(t, []string{strings.Join(l, "\n")})
		cut := 1 + int(seed)%len(l)
		some := grown(t, []string{strings.Join(l[:cut], "\n"), strings.Join(l[cut:], "\n")})
		all := grown(t, l)
		if one == nil || some == nil || all == nil {
			if one != nil || some != nil || all != nil {
				t.Errorf("seed %d: refused in one, or in parts", seed)
			}
			continue
		}
		want, _ := Run(one, lines(), 3000)
		program, _ := lambda.Run(lowers(t, one), lines(), 1<<20)
		for _, units := range [][]api.Unit{some, all} {
			got, e := Run(units, lines(), 3000)
			if e != api.OK || !alike(got, want) || got.Steps != want.Steps {
				t.Fatalf("seed %d in %d: %s, %d steps; in one: %s, %d steps", seed, len(units), showOutcome(got), got.Steps, showOutcome(want), want.Steps)
			}
			p, _ := lambda.Run(lowers(t, units), lines(), 1<<20)
			if !alike(p, program) {
				t.Fatalf("seed %d in %d, lowered: %s; in one: %s", seed, len(units), showOutcome(p), showOutcome(program))
			}
			apart, _ := lowersApart(t, units)
			p, _ = lambda.Run(apart, lines(), 1<<24)
			if !alike(p, program) && program.Status != api.OutOfFuel {
				t.Fatalf("seed %d in %d, lowered apart: %s; in one: %s", seed, len(units), showOutcome(p), showOutcome(program))
			}
		}
	}
}

// FuzzPrograms holds programs at random against the second reading, and against what they become.
func FuzzPrograms(f *testing.F) {
	f.Add(int64(1), 100)
	f.Fuzz(func(t *testing.T, seed int64, fuel int) {
		l := grown(t, []string{strings.Join(pieces(seed), "\n")})
		if l == nil || fuel < 0 || fuel > 5000 {
			return
		}
		got, e := Run(l, lines(), fuel)
		want := modelRun(l, lines(), fuel)
		if e != api.OK || !alike(got, want) || got.Steps != want.Steps || got.Status == api.Stuck {
			t.Fatalf("%s, %d steps, %d; want %s, %d steps", showOutcome(got), got.Steps, e, showOutcome(want), want.Steps)
		}
		held(t, l, lowers(t, l), lines(), fuel)
		if p, ok := lowersApart(t, l); ok {
			held(t, l, p, lines(), fuel)
		}
	})
}
