package names

import (
	"iter"
	"maps"
	"slices"

	"kiln/api"
)

// slots are the names of the fields of a structure: of values, and behind them of structures, both rising.
type slots struct{ values, structures []string }

// Slots are the names of the fields of a structure with this environment. They are not to be changed.
func (v *Env) Slots() (values, structures []string) {
	if inner := v.openedAlone(); inner != nil {
		return inner.Slots()
	}
	if v.known.slots == nil {
		isNoField := func(name string) bool {
			e, _, _ := v.Val(name)
			return !IsField(e)
		}
		v.known.slots = &slots{
			values:     slices.DeleteFunc(v.valNames(), isNoField),
			structures: v.strNames(),
		}
	}
	return v.known.slots.values, v.known.slots.structures
}

// openedAlone is the environment of all structures that were opened, if that is the same, and there is nothing else.
func (v *Env) openedAlone() *Env {
	if l := v.lastOpened(); l == nil || l.next != nil || v.Rows() > len(v.opens) {
		return nil
	}
	return v.opens[0].Env
}

// IsField tells whether a value has a field in its structure.
func IsField(e api.Entry) bool { return e.Is == api.SVar || e.Is == api.SExn }

func (v *Env) valNames() []string {
	return found(v, func(v *Env) []row[api.Entry] { return v.vals.rows })
}

func (v *Env) typNames() []string {
	return found(v, func(v *Env) []row[api.Typ] { return v.types.rows })
}

func (v *Env) strNames() []string { return found(v, func(v *Env) []row[Str] { return v.strs.rows }) }

// found are the names of a kind that are found in an environment, each once, rising.
func found[T any](v *Env, rows func(*Env) []row[T]) []string {
	names, met := map[string]struct{}{}, map[*Env]struct{}{}
	var gather func(v *Env)
	gather = func(v *Env) {
		if _, again := met[v]; again {
			return
		}
		met[v] = struct{}{}
		for _, r := range rows(v) {
			names[r.name] = struct{}{}
		}
		for _, o := range v.opens {
			gather(o.Env)
		}
	}
	gather(v)
	return slices.Sorted(maps.Keys(names))
}

// Val is what a name stands for in the structure, with where it is.
func (s Str) Val(name string) (api.Entry, bool) {
	e, _, ok := s.Env.Val(name)
	if !ok {
		return api.Entry{}, false
	}
	return s.placed(e), true
}

// Typ is the type of a name in the structure.
func (s Str) Typ(name string) (api.Typ, bool) {
	t, _, ok := s.Env.Typ(name)
	return t, ok
}

// Sub is the structure of a name in the structure, with where it is.
func (s Str) Sub(name string) (Str, bool) {
	sub, _, ok := s.Env.Str(name)
	if !ok {
		return Str{}, false
	}
	return s.placedSub(sub), true
}

// placed is an Entry of the structure with where it is: in the field of its name, if there is one.
func (s Str) placed(e api.Entry) api.Entry {
	e.At = api.Access{}
	values, _ := s.Env.Slots()
	if place, ok := slices.BinarySearch(values, e.Name); ok && IsField(e) {
		e.At = s.field(place)
	}
	return e
}

// placedSub is a structure in the structure with where it is.
func (s Str) placedSub(sub Str) Str {
	values, structures := s.Env.Slots()
	place, _ := slices.BinarySearch(structures, sub.Name)
	sub.At = s.field(len(values) + place)
	return sub
}

// field is where a field of the structure is.
func (s Str) field(place int) api.Access {
	return api.Access{Id: s.At.Id, Path: append(slices.Clone(s.At.Path), place)}
}

func (s Str) vals() iter.Seq[api.Entry] { return turned(s.Env.Vals(), s.placed) }

func (s Str) types() iter.Seq[api.Typ] { return s.Env.Types() }

func (s Str) subs() iter.Seq[Str] { return turned(s.Env.Strs(), s.placedSub) }

// turned are items, each as something makes it.
func turned[T any](l iter.Seq[T], turn func(T) T) iter.Seq[T] {
	return func(yield func(T) bool) {
		for item := range l {
			if !yield(turn(item)) {
				return
			}
		}
	}
}
