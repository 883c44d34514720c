package modules

import (
	"strings"

	"kiln/api"
	"kiln/names"
)

// source is what the parts of a structure are told of: an environment whose declarations made it, or another structure's with what is asked for.
type source struct {
	made, from, asked *names.Env
}

// parts are those of a source; none, if they are too many to be told.
func (s source) parts() []api.Part {
	switch {
	case s.made != nil:
		return fields(s.made)
	case s.asked != nil && partsOf(s.asked, map[*names.Env]int{}) <= mostParts:
		return matched(names.Str{Env: s.from}, s.asked)
	}
	return nil
}

// mostParts is how many parts are told: more are more bytes than the document promises something of.
const mostParts = names.Most / 152

// partsOf is how many parts there are of what is asked for, with those within others; at most one more than can be told.
func partsOf(asked *names.Env, known map[*names.Env]int) int {
	if n, ok := known[asked]; ok {
		return n
	}
	values, structures := asked.Slots()
	n := len(values) + len(structures)
	for _, name := range structures {
		s, _, _ := asked.Str(name)
		n = min(n+partsOf(s.Env, known), mostParts+1)
	}
	known[asked] = n
	return n
}

// fields are the parts of a structure whose declarations put this there.
func fields(v *names.Env) []api.Part {
	values, structures := v.Slots()
	var parts []api.Part
	for _, name := range values {
		e, _, _ := v.Val(name)
		parts = append(parts, api.Part{From: names.CloneEntry(e), Exn: e.Is == api.SExn})
	}
	for _, name := range structures {
		s, _, _ := v.Str(name)
		parts = append(parts, structurePart(s))
	}
	return parts
}

// structurePart is the part of a structure.
func structurePart(s names.Str) api.Part {
	return api.Part{From: api.Entry{Name: strings.Clone(s.Name), At: names.CloneAccess(s.At)}, Str: true}
}

// matched are the parts of what is asked for, out of a structure.
func matched(s names.Str, asked *names.Env) []api.Part {
	values, structures := asked.Slots()
	var parts []api.Part
	for _, name := range values {
		e, _ := s.Val(name)
		is, _, _ := asked.Val(name)
		parts = append(parts, api.Part{From: names.CloneEntry(e), Exn: is.Is == api.SExn})
	}
	for _, name := range structures {
		from, _ := s.Sub(name)
		to, _, _ := asked.Str(name)
		part := structurePart(from)
		part.Sub = matched(from, to.Env)
		parts = append(parts, part)
	}
	return parts
}
