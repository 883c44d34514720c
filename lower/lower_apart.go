package lower

import (
	"slices"

	"kiln/api"
)

// apart lowers units of which nodes stand at several places. What is around such a node is not the same at each of them, so it can't be written around it: what variables are bound to stands in a value of the program, the environment, that each node finds in one and the same variable, and a node is lowered once. Lists may name it much oftener than there can be nodes: so they are texts, and functions go along them.
type apart struct {
	*writer
	*unit
	places map[int]int         // of each variable that is bound: where it stands in environments
	levels int                 // of tuples in an environment
	done   map[int]int         // of each node of the unit
	listed map[use]int         // of what lists of the unit name
	items  []int               // what lists name, by their numbers
	got    map[int]int         // of each place of an array what stands there
	asks   [api.MaxLabels]bool // which fields of records patterns ask
	renews bool                // many variables are bound at once
}

// fan is how many fields a tuple of an environment has; bits are those of a field's number.
const (
	bits = 3
	fan  = 1 << bits
)

// programApart is what units do, one behind the other.
func (w *writer) programApart(units []*unit) int {
	a := &apart{writer: w, places: map[int]int{}, got: map[int]int{}}
	for _, u := range units {
		a.place(u)
	}
	a.levels = 1
	for len(a.places) > 1<<(bits*a.levels) {
		a.levels++
	}
	var list []around
	for range a.levels + 1 { // each is a tuple of as many as the one ahead; the first one is nothing
		from := w.zero
		if len(list) > 0 {
			from = w.tuple(slices.Repeat([]int{w.of(environment)}, fan)...)
		}
		list = append(list, w.let(environment, from))
	}
	for _, u := range units {
		a.unit, a.done, a.listed = u, map[int]int{}, map[use]int{}
		list = append(list, w.let(environment, a.decs(u.Root)))
	}
	return a.goingAlong(inside(list)(w.zero))
}

// place gives each variable that a unit binds its place in environments.
func (a *apart) place(u *unit) {
	for i, n := range placesOf(u) {
		if n == 0 {
			continue
		}
		switch u.Nodes[i].Kind {
		case api.NFct:
			a.placeOne(u.Notes[u.kids(i)[0]].At.Id)
			a.placeOne(u.Notes[i].At.Id)
		case api.NCon, api.NStr:
			a.placeOne(u.Notes[i].At.Id)
		}
		if bindsItself(u, i) {
			a.placeOne(u.Notes[i].At.Id)
		}
	}
}

func (a *apart) placeOne(id int) {
	if _, ok := a.places[id]; !ok && id != nobody && !isException(id) {
		a.places[id] = len(a.places)
	}
}

// isException tells whether a variable is one of the exceptions that are there at first.
func isException(id int) bool { return id >= api.XBind && id <= api.XSubscript }

// digit is which field of a tuple leads to a place.
func digit(place, level int) int { return place >> (bits * level) % fan }

// at is what is at an Access. What an environment has at a place is a tuple of it; where nothing was put, it is none.
func (a *apart) at(at api.Access) int {
	if at.Id == nobody {
		return a.along(a.zero, at.Path)
	}
	if isException(at.Id) {
		return a.along(a.of(at.Id), at.Path)
	}
	place, ok := a.places[at.Id]
	if !ok {
		return a.stuck()
	}
	of := a.of(environment)
	for level := a.levels - 1; level >= 0; level-- {
		of = a.field(digit(place, level), of)
	}
	return a.along(a.field(0, of), at.Path)
}

// with is an environment in which something stands for a variable.
func (a *apart) with(id, what int) int {
	place, ok := a.places[id]
	if !ok {
		return a.of(environment)
	}
	return a.anew(a.of(environment), a.levels-1, place, a.tuple(what))
}

// anew is a tuple of an environment, with something at a place below it.
func (a *apart) anew(of, level, place, what int) int {
	fields := make([]int, fan)
	for i := range fields {
		switch {
		case i != digit(place, level):
			fields[i] = a.field(i, of)
		case level == 0:
			fields[i] = what
		default:
			fields[i] = a.anew(a.field(i, of), level-1, place, what)
		}
	}
	return a.tuple(fields...)
}

// scoped is what is done where the environment is another one.
func (a *apart) scoped(environs, do int) int { return a.let(environment, environs)(do) }

// ofBoth is a function of an environment and of what something is asked of.
func (a *apart) ofBoth(do int) int {
	environs, of := a.let(environment, a.field(0, a.of(argument))), a.let(asked, a.field(1, a.of(argument)))
	return a.fn(argument, environs(of(do)))
}

// both is what such a function is applied to.
func (a *apart) both() int { return a.tuple(a.of(environment), a.of(asked)) }

// ifZero does one thing where something is the int 0, and another thing where it is not.
func (a *apart) ifZero(of, zero, other int) int {
	return a.choose(of, []api.Key{{Kind: api.KeyInt, Int: 0}}, zero, other)
}

// once is what a node is lowered to.
func (a *apart) once(i int, lower func(i int) int) int {
	at, ok := a.done[i]
	if !ok {
		at = lower(i)
		a.done[i] = at
	}
	return at
}
