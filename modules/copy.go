package modules

import (
	"slices"
	"strings"

	"kiln/api"
)

// Bounds of an environment that can be copied, above what the document promises something of: one that is made by hand can have itself as a structure in it.
const (
	mostNested = 1 << 17
	mostNames  = 1 << 25
)

// within tells whether an environment has no more structures nested in one another, and no more names in all; what is left of these is told.
func within(v api.Env, nested int, names *int) bool {
	*names -= len(v.Vals) + len(v.Types) + len(v.Strs)
	for _, s := range v.Strs {
		if nested == 0 || *names < 0 || !within(s.Env, nested-1, names) {
			return false
		}
	}
	return *names >= 0
}

// copyAll is the same items in new memory.
func copyAll[T any](l []T, of func(T) T) []T {
	l = slices.Clone(l)
	for i, item := range l {
		l[i] = of(item)
	}
	return l
}

func copyAccess(a api.Access) api.Access {
	a.Path = slices.Clone(a.Path)
	return a
}

func copyScheme(s api.Scheme) api.Scheme {
	s.Vars = slices.Clone(s.Vars)
	return s
}

func copyEntry(e api.Entry) api.Entry {
	e.Name, e.Scheme, e.At = strings.Clone(e.Name), copyScheme(e.Scheme), copyAccess(e.At)
	return e
}

func copyTyp(t api.Typ) api.Typ {
	t.Name, t.Scheme, t.Cons = strings.Clone(t.Name), copyScheme(t.Scheme), copyAll(t.Cons, copyEntry)
	return t
}

func copyStr(s api.Str) api.Str {
	s.Name, s.At, s.Env = strings.Clone(s.Name), copyAccess(s.At), copyEnv(s.Env)
	return s
}

func copyEnv(v api.Env) api.Env {
	return api.Env{Vals: copyAll(v.Vals, copyEntry), Types: copyAll(v.Types, copyTyp), Strs: copyAll(v.Strs, copyStr)}
}

func copySigma(s api.Sigma) api.Sigma {
	s.Name, s.Env, s.Flex = strings.Clone(s.Name), copyEnv(s.Env), slices.Clone(s.Flex)
	return s
}

func copyFunctor(f api.Functor) api.Functor {
	f.Name, f.At = strings.Clone(f.Name), copyAccess(f.At)
	f.Param, f.Body, f.New = copySigma(f.Param), copyEnv(f.Body), slices.Clone(f.New)
	return f
}

func copyPart(p api.Part) api.Part {
	p.From, p.Sub = copyEntry(p.From), copyAll(p.Sub, copyPart)
	return p
}
