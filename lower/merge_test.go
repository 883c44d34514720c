package lower

import (
	"fmt"
	"math/rand"
	"testing"

	"kiln/api"
	"kiln/lambda"
	"kiln/modules"
)

// merged is a tree in which nodes that say the same are one; some that are chosen are left as they are.
func merged(l []api.Node, root int, also func(i int) string) ([]api.Node, int, []int) {
	var all []api.Node
	var from []int // of each node one that it was
	known := map[string]int{}
	at := make([]int, root+1)
	for i, n := range l[:root+1] {
		var kids []int
		for _, k := range n.Kids {
			kids = append(kids, at[k])
		}
		is := fmt.Sprintf("%d %q %q %v %s", n.Kind, n.Text, n.Path, kids, also(i))
		k, ok := known[is]
		if !ok {
			k = len(all)
			known[is] = k
			n.Kids = kids
			all = append(all, n)
			from = append(from, i)
		}
		at[i] = k
	}
	return all, at[root], from
}

// mergedUnit is a unit in which nodes that say the same, and of which the same is said, are one.
func mergedUnit(u api.Unit) api.Unit {
	l, root, from := merged(u.Nodes, u.Root, func(i int) string { return fmt.Sprint(u.Notes[i], u.Parts[i]) })
	m := api.Unit{Nodes: l, Root: root}
	for _, i := range from {
		m.Notes = append(m.Notes, u.Notes[i])
		m.Parts = append(m.Parts, u.Parts[i])
	}
	return m
}

// P12.1, P12.2: programs at random, of which nodes that say the same are one, do what they did, both ways.
func TestMerged(t *testing.T) {
	t.Parallel()
	fewer := 0
	wholes(t, 3000, 3250, func(seed int64, text string, l []api.Unit) {
		var m []api.Unit
		for _, u := range l {
			m = append(m, mergedUnit(u))
		}
		if size(m) < size(l) {
			fewer++
		}
		want, _ := Run(l, lines(), 3000)
		got, e := Run(m, lines(), 3000)
		if e != api.OK || !alike(got, want) || got.Steps != want.Steps {
			t.Fatalf("seed %d merged: %s, %d steps, %d; want %s, %d steps\n%s", seed, showOutcome(got), got.Steps, e, showOutcome(want), want.Steps, text)
		}
		heldRandom(t, seed, text, m, lowers(t, m))
	})
	if fewer < 200 {
		t.Errorf("%d have nodes that are one", fewer)
	}
}

// P12.2: and so do those of which nodes are one that say the same, whatever is said of them.
func TestMergedAhead(t *testing.T) {
	t.Parallel()
	ends := map[api.Status]int{}
	for seed := range int64(500) {
		r := rand.New(rand.NewSource(seed))
		text := ""
		for _, p := range pieces(seed + 4000) {
			text += p + "\n"
		}
		l, root, ok := tryTree(text)
		if !ok {
			t.Fatalf("no tree: %s", text)
		}
		often := r.Intn(100)
		l, root, _ = merged(l, root, func(i int) string {
			if r.Intn(100) < often {
				return fmt.Sprint(i)
			}
			return ""
		})
		u, e := tryUnit(modules.New(), l, root)
		if e != api.OK {
			continue
		}
		all := []api.Unit{u}
		o, _ := Run(all, lines(), 3000)
		ends[o.Status]++
		p := lowers(t, all)
		held(t, all, p, lines(), 3000)
		held(t, all, p, lines(), int(seed%50))
		b, _ := lambda.Run(p, lines(), 1<<20)
		if o.Status != api.OutOfFuel && !alike(o, b) || !begins(o, b) {
			t.Fatalf("seed %d: %s; lowered: %s\n%s", seed, showOutcome(o), showOutcome(b), text)
		}
	}
	if ends[api.Done] < 100 || ends[api.Uncaught] < 100 || ends[api.Stuck] < 50 {
		t.Errorf("few programs end so: %v", ends)
	}
}
