package flows

import (
	"slices"

	"kiln/api"
	"kiln/fix"
	"kiln/str"
)

// IsFormed tells whether a node of a list, whose Args are lower, has the form of its kind. How many Args a primitive has is asked apart: what they are is asked if they are as many as it takes.
func IsFormed(prims []api.Prim, l []api.Flow, f api.Flow) bool {
	switch f.Kind {
	case api.JVar:
		return f.N >= 0
	case api.JInt:
		return fix.Right(f.Int)
	case api.JReal:
		return true
	case api.JStr:
		return str.Right(f.Text)
	case api.JTuple:
		atoms := len(f.Args) - 1
		return f.N >= 0 && atoms >= 1 && atoms <= api.MaxFields && is(l, f.Args, atoms, 1)
	case api.JCon, api.JField:
		return f.N >= 0 && f.M >= 0 && is(l, f.Args, 1, 1)
	case api.JPrim:
		return f.N >= 0 && (!IsPrim(prims, f) || is(l, f.Args, prims[f.M].Args, len(f.Args)-prims[f.M].Args))
	case api.JFix:
		return isFix(l, f)
	case api.JFn:
		return AreParams(f.Vars, api.MaxArity) && is(l, f.Args, 0, 1)
	case api.JCall:
		return len(f.Args) >= 1 && len(f.Args) <= 1+api.MaxArity && is(l, f.Args, len(f.Args), 0)
	case api.JCase:
		branches := len(f.Args) - 1
		more := branches - len(f.Keys)
		return (more == 0 || more == 1) && is(l, f.Args, 1, branches) && !slices.ContainsFunc(f.Keys, isStrange)
	case api.JHalt, api.JFail:
		return is(l, f.Args, 1, 0)
	}
	return false
}

// is tells whether nodes are so many atoms, and behind them so many moves.
func is(l []api.Flow, args []int, atoms, moves int) bool {
	if len(args) != atoms+moves {
		return false
	}
	for i, a := range args {
		if i < atoms && !IsAtom(l[a].Kind) || i >= atoms && !IsMove(l[a].Kind) {
			return false
		}
	}
	return true
}

// isFix tells whether a node has a function for each of its variables, and what comes then.
func isFix(l []api.Flow, f api.Flow) bool {
	functions := len(f.Vars)
	if functions == 0 || len(f.Args) != functions+1 {
		return false
	}
	for i, v := range f.Vars {
		if v < 0 || l[f.Args[i]].Kind != api.JFn {
			return false
		}
	}
	return IsMove(l[f.Args[functions]].Kind)
}

// AreParams tells whether variables may be those of a function: unlike ones, at most so many.
func AreParams(l []int, most int) bool {
	if len(l) > most {
		return false
	}
	for i, v := range l {
		if v < 0 || slices.Contains(l[:i], v) {
			return false
		}
	}
	return true
}

// isStrange tells whether a key is none.
func isStrange(k api.Key) bool {
	switch k.Kind {
	case api.KeyInt, api.KeyCon:
		return false
	case api.KeyStr:
		return !str.Right(k.Text)
	}
	return true
}

// IsPrim tells whether a node is no primitive, or one that there is, with as many Args as it wants.
func IsPrim(prims []api.Prim, f api.Flow) bool {
	if f.Kind != api.JPrim {
		return true
	}
	if f.M < 0 || f.M >= len(prims) {
		return false
	}
	p := prims[f.M]
	want := p.Args + 1
	if len(p.Raises) > 0 {
		want++
	}
	return len(f.Args) == want
}
