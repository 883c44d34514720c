package modules

import (
	"slices"

	"kiln/api"
)

// grower makes variables types that are too large to be unified with something. It makes these anew: from without, so that all that is unified is small by then.
type grower struct {
	*loan
	roots  []int       // the types
	stands map[int]int // of types and their parts: the variables that become them
	parts  []int       // all of these, each behind its own parts
}

// grow makes the variables of all roots what these are.
func (g *grower) grow() {
	seen := map[int]struct{}{}
	for _, t := range g.roots {
		g.gather(t, seen)
	}
	for _, t := range slices.Backward(g.parts) {
		if !g.isLarge(t) {
			g.fail(g.book.Unify(g.stands[t], t))
			continue
		}
		is, _ := g.book.Look(t)
		var parts []int
		for _, a := range is.Args {
			parts = append(parts, g.stands[a])
		}
		g.fail(g.book.Unify(g.stands[t], g.like(is, parts)))
	}
}

// gather gathers a type and its parts, up to those that are not too large.
func (g *grower) gather(t int, seen map[int]struct{}) {
	if _, again := seen[t]; again {
		return
	}
	seen[t] = struct{}{}
	if _, ok := g.stands[t]; !ok {
		v, e := g.book.Var(api.MaxLevel, false, api.Any) // it is lowered where it is put
		g.fail(e)
		g.stands[t] = v
	}
	if g.isLarge(t) {
		is, _ := g.book.Look(t)
		for _, a := range is.Args {
			g.gather(a, seen)
		}
	}
	g.parts = append(g.parts, t)
}

// isLarge tells whether a type is too large.
func (g *grower) isLarge(t int) bool {
	_, e := g.book.Generalize(t, api.MaxLevel)
	return e == api.ErrLong
}
