package modules

import (
	"slices"
	"strings"

	"kiln/api"
	"kiln/names"
)

// within tells whether an environment has no more structures nested in one another, and no more bytes in all; what is left of these is told. (One that is made by hand can have itself as a structure in it.)
func within(v api.Env, nested int, left *int) bool {
	*left -= names.Weigh(v)
	for _, s := range v.Strs {
		if nested == 0 || *left < 0 || !within(s.Env, nested-1, left) {
			return false
		}
	}
	return *left >= 0
}

func copyStr(s api.Str) api.Str {
	return api.Str{Name: strings.Clone(s.Name), At: names.CloneAccess(s.At), Env: copyEnv(s.Env)}
}

func copyEnv(v api.Env) api.Env {
	return api.Env{
		Vals:  names.CloneAll(v.Vals, names.CloneEntry),
		Types: names.CloneAll(v.Types, names.CloneTyp),
		Strs:  names.CloneAll(v.Strs, copyStr),
	}
}

// sigma is a signature: what it names, and its flexible type constructors.
type sigma struct {
	name string
	env  *names.Env
	flex []int
}

// toldSigs are signatures in new memory.
func toldSigs(l []sigma) []api.Sigma {
	var envs []*names.Env
	for _, s := range l {
		envs = append(envs, s.env)
	}
	var told []api.Sigma
	for i, v := range names.Told(envs...) {
		told = append(told, l[i].with(v))
	}
	return told
}

// with is a signature with an environment that was told.
func (s sigma) with(v api.Env) api.Sigma {
	return api.Sigma{Name: strings.Clone(s.name), Env: v, Flex: slices.Clone(s.flex)}
}

// functor is a functor: its body, and the type constructors that each application makes anew.
type functor struct {
	name  string
	at    api.Access
	param sigma
	body  *names.Env
	anew  []int
}

// toldFunctors are functors in new memory.
func toldFunctors(l []functor) []api.Functor {
	var envs []*names.Env
	for _, f := range l {
		envs = append(envs, f.param.env, f.body)
	}
	var told []api.Functor
	for i, v := range names.Told(envs...) {
		f := l[i/2]
		if i%2 == 0 {
			told = append(told, api.Functor{Name: strings.Clone(f.name), At: names.CloneAccess(f.at), Param: f.param.with(v), New: slices.Clone(f.anew)})
		} else {
			told[i/2].Body = v
		}
	}
	return told
}
