package elab

import (
	"slices"
	"strings"

	"kiln/api"
)

// Slots are the names of the fields of a structure: values, structures.
func Slots(v api.Env) ([]string, []string) {
	values, structures := slotsOf(v)
	return cloneAll(values, strings.Clone), cloneAll(structures, strings.Clone)
}

// Find: what a long name stands for as a value.
func Find(v api.Env, path []string, name string) (api.Entry, bool) {
	if len(path) == 0 {
		e, ok := lastOf(v.Vals, name, entryName)
		return cloneEntry(e), ok
	}
	s, ok := structureAt(v, path)
	if !ok {
		return api.Entry{}, false
	}
	e, ok := s.value(name)
	return cloneEntry(e), ok
}

// FindType: as a type.
func FindType(v api.Env, path []string, name string) (api.Typ, bool) {
	if len(path) > 0 {
		s, ok := structureAt(v, path)
		if !ok {
			return api.Typ{}, false
		}
		v = s.Env
	}
	t, ok := lastOf(v.Types, name, typName)
	return cloneTyp(t), ok
}

// FindStr: as a structure.
func FindStr(v api.Env, path []string) (api.Str, bool) {
	s, ok := structureAt(v, path)
	if !ok {
		return api.Str{}, false
	}
	return cloneStr(s.Str), true
}

// structureAt is the structure of a long name, of which there must be at least one part.
func structureAt(v api.Env, path []string) (*structure, bool) {
	if len(path) == 0 {
		return nil, false
	}
	str, ok := lastOf(v.Strs, path[0], strName)
	if !ok {
		return nil, false
	}
	return newStructure(str).within(path[1:])
}

func entryName(e api.Entry) string { return e.Name }
func typName(t api.Typ) string     { return t.Name }
func strName(s api.Str) string     { return s.Name }

// lastOf is the item of a name that counts.
func lastOf[T any](l []T, name string, named func(T) string) (T, bool) {
	for _, item := range slices.Backward(l) {
		if named(item) == name {
			return item, true
		}
	}
	var none T
	return none, false
}

// lasts are the places of the items that count, by their names.
func lasts[T any](l []T, named func(T) string) map[string]int {
	places := make(map[string]int, len(l))
	for i, item := range l {
		places[named(item)] = i
	}
	return places
}

// isField tells whether a value has a field in its structure.
func isField(e api.Entry) bool { return e.Is == api.SVar || e.Is == api.SExn }

// slotsOf are the names of a structure's fields: of values, and behind them of structures.
func slotsOf(v api.Env) (values, structures []string) {
	for name, i := range lasts(v.Vals, entryName) {
		if isField(v.Vals[i]) {
			values = append(values, name)
		}
	}
	for name := range lasts(v.Strs, strName) {
		structures = append(structures, name)
	}
	slices.Sort(values)
	slices.Sort(structures)
	return values, structures
}
