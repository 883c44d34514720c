package elab

import (
	"slices"
	"strings"

	"kiln/api"
)

// cloneAll is the same items in new memory.
func cloneAll[T any](l []T, clone func(T) T) []T {
	l = slices.Clone(l)
	for i, item := range l {
		l[i] = clone(item)
	}
	return l
}

func cloneNodes(l []api.Node) []api.Node { return cloneAll(l, cloneNode) }

func cloneNode(n api.Node) api.Node {
	n.Text, n.Path, n.Kids = strings.Clone(n.Text), cloneAll(n.Path, strings.Clone), slices.Clone(n.Kids)
	return n
}

func cloneNote(n api.Note) api.Note {
	n.Name, n.Labels = strings.Clone(n.Name), cloneAll(n.Labels, strings.Clone)
	n.At = cloneAccess(n.At)
	return n
}

func cloneAccess(a api.Access) api.Access {
	a.Path = slices.Clone(a.Path)
	return a
}

func cloneScheme(s api.Scheme) api.Scheme {
	s.Vars = slices.Clone(s.Vars)
	return s
}

func cloneEntry(e api.Entry) api.Entry {
	e.Name, e.Scheme, e.At = strings.Clone(e.Name), cloneScheme(e.Scheme), cloneAccess(e.At)
	return e
}

func cloneTyp(t api.Typ) api.Typ {
	t.Name, t.Scheme, t.Cons = strings.Clone(t.Name), cloneScheme(t.Scheme), cloneAll(t.Cons, cloneEntry)
	return t
}

func cloneStr(s api.Str) api.Str {
	s.Name, s.At, s.Env = strings.Clone(s.Name), cloneAccess(s.At), cloneEnv(s.Env)
	return s
}

func cloneEnv(v api.Env) api.Env {
	return api.Env{
		Vals:  cloneAll(v.Vals, cloneEntry),
		Types: cloneAll(v.Types, cloneTyp),
		Strs:  cloneAll(v.Strs, cloneStr),
	}
}
