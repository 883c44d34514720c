package types

import (
	"slices"

	"kiln/api"
)

// swapper makes types anew, with others in the place of some of their parts.
type swapper struct {
	*Book
	from int // the first type that it makes
}

// place tells what stands in the place of a part, if something else does.
type place func(part int) (int, bool)

// swap is a type with other types in the place of its parts; parts in which nothing turns are the same ones.
func (w swapper) swap(t int, place place) int {
	t = w.now(t)
	if len(w.cells)-w.from > api.MaxSize { // all that is made stands in the answer, which is too large then
		return t
	}
	if other, ok := place(t); ok {
		return other
	}
	c := w.cells[t]
	if c.Kind == api.YVar { // an open one stays, with its fields
		return t
	}
	turned := false
	args := make([]int, len(c.Args))
	for i, a := range c.Args {
		args[i] = w.swap(a, place)
		turned = turned || args[i] != w.now(a)
	}
	if !turned {
		return t
	}
	c.Args = args
	return w.add(c)
}

// replacer makes types anew with a type in the place of a constructor.
type replacer struct {
	swapper
	con    int
	by     int
	places map[int]int // of variables: for which of the constructor's arguments they stand
	vars   []int       // those of them that stand in by
}

// newReplacer is one for a constructor, and a type with variables for its arguments.
func newReplacer(b *Book, con, by int, places map[int]int) *replacer {
	r := &replacer{swapper{b, len(b.cells)}, con, by, places, nil}
	r.swap(by, func(part int) (int, bool) {
		if _, ok := places[part]; ok && !slices.Contains(r.vars, part) {
			r.vars = append(r.vars, part)
		}
		return 0, false
	})
	return r
}

// place tells what stands in the place of a part, if that is the constructor with its arguments.
func (r *replacer) place(part int) (int, bool) {
	c := r.cells[part]
	if c.Kind != api.YCon || c.Con != r.con {
		return 0, false
	}
	args := map[int]int{}
	for _, v := range r.vars { // arguments that are put nowhere are not even turned, however large they would be
		args[v] = r.swap(c.Args[r.places[v]], r.place)
	}
	return r.swap(r.by, func(part int) (int, bool) {
		t, ok := args[part]
		return t, ok
	}), true
}
