package elab

import (
	"slices"
	"strings"

	"kiln/api"
	"kiln/names"
)

// Slots are the names of the fields of a structure: values, structures.
func Slots(v api.Env) ([]string, []string) {
	values, structures := slotsOf(v)
	return cloneTexts(values), cloneTexts(structures)
}

// Find: what a long name stands for as a value.
func Find(v api.Env, path []string, name string) (api.Entry, bool) {
	if len(path) == 0 {
		e, ok := lastOf(v.Vals, name, entryName)
		return names.CloneEntry(e), ok
	}
	s, ok := structureAt(v, path)
	if !ok {
		return api.Entry{}, false
	}
	e, ok := lastOf(s.Env.Vals, name, entryName)
	e.At = api.Access{}
	if ok && names.IsField(e) {
		values, _ := slotsOf(s.Env)
		e.At = fieldOf(s, slices.Index(values, name))
	}
	return names.CloneEntry(e), ok
}

// FindType: as a type.
func FindType(v api.Env, path []string, name string) (api.Typ, bool) {
	if len(path) > 0 {
		s, ok := structureAt(v, path)
		if !ok {
			return api.Typ{}, false
		}
		v = s.Env
	}
	t, ok := lastOf(v.Types, name, typName)
	return names.CloneTyp(t), ok
}

// FindStr: as a structure.
func FindStr(v api.Env, path []string) (api.Str, bool) {
	s, ok := structureAt(v, path)
	if !ok {
		return api.Str{}, false
	}
	return api.Str{Name: strings.Clone(s.Name), At: names.CloneAccess(s.At), Env: cloneEnv(s.Env)}, true
}

// structureAt is the structure of a long name, of which there must be at least one part, with where it is.
func structureAt(v api.Env, path []string) (api.Str, bool) {
	if len(path) == 0 {
		return api.Str{}, false
	}
	s, ok := lastOf(v.Strs, path[0], strName)
	for _, name := range path[1:] {
		inner, found := lastOf(s.Env.Strs, name, strName)
		if !ok || !found {
			return api.Str{}, false
		}
		values, structures := slotsOf(s.Env)
		inner.At = fieldOf(s, len(values)+slices.Index(structures, name))
		s = inner
	}
	return s, ok
}

// fieldOf is where a field of a structure is.
func fieldOf(s api.Str, place int) api.Access {
	return api.Access{Id: s.At.Id, Path: append(slices.Clone(s.At.Path), place)}
}

func entryName(e api.Entry) string { return e.Name }
func typName(t api.Typ) string     { return t.Name }
func strName(s api.Str) string     { return s.Name }

// lastOf is the item of a name that counts.
func lastOf[T any](l []T, name string, named func(T) string) (T, bool) {
	for _, item := range slices.Backward(l) {
		if named(item) == name {
			return item, true
		}
	}
	var none T
	return none, false
}

// lasts are the places of the items that count, by their names.
func lasts[T any](l []T, named func(T) string) map[string]int {
	places := make(map[string]int, len(l))
	for i, item := range l {
		places[named(item)] = i
	}
	return places
}

// slotsOf are the names of a structure's fields: of values, and behind them of structures.
func slotsOf(v api.Env) (values, structures []string) {
	for name, i := range lasts(v.Vals, entryName) {
		if names.IsField(v.Vals[i]) {
			values = append(values, name)
		}
	}
	for name := range lasts(v.Strs, strName) {
		structures = append(structures, name)
	}
	slices.Sort(values)
	slices.Sort(structures)
	return values, structures
}
