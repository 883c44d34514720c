package cps

import (
	"math"
	"slices"

	"kiln/api"
	"kiln/values"
)

// The model is a second reading of the chapter: moves one behind the other, variables in a list. Values and primitives are those of package values, which chapter 11's tests hold.

type mFn struct {
	vars []int
	body int
	env  *mEnv
}

type mEnv struct {
	v    int
	val  values.Value
	next *mEnv
}

func (e *mEnv) find(v int) values.Value {
	for e.v != v {
		e = e.next
	}
	return e.val
}

// modelRun is what a program that Check takes does.
func modelRun(p api.Cps, input []string, fuel int) api.Outcome {
	s := values.NewState(input, fuel)
	prims := api.Prims()
	at := p.Root
	var env *mEnv
	atom := func(i int) values.Value {
		switch f := p.Nodes[i]; f.Kind {
		case api.JInt:
			return values.Int(f.Int)
		case api.JReal:
			return values.Real(math.Float64frombits(f.Bits))
		case api.JStr:
			return values.Text(f.Text)
		default:
			return env.find(f.N)
		}
	}
	for {
		if !s.Step() {
			return s.Outcome(api.OutOfFuel)
		}
		f := p.Nodes[at]
		var l []values.Value // of the atoms ahead
		for _, a := range f.Args {
			if k := p.Nodes[a].Kind; k < 1 || k > 4 {
				break
			}
			l = append(l, atom(a))
		}
		bind := func(v values.Value) { env, at = &mEnv{f.N, v, env}, f.Args[len(l)] }
		switch f.Kind {
		case api.JTuple:
			bind(values.Tuple(l))
		case api.JCon:
			bind(&values.Con{Tag: f.M, Of: l[0]})
		case api.JField:
			t, isTuple := l[0].(values.Tuple)
			c, isCon := l[0].(*values.Con)
			switch {
			case isTuple && f.M < len(t):
				bind(t[f.M])
			case isCon && f.M == 0:
				bind(c.Of)
			default:
				return s.Outcome(api.Stuck)
			}
		case api.JPrim:
			a := s.Do(f.M, l)
			switch {
			case a.End != 0:
				return s.Outcome(a.End)
			case a.Code == 0:
				bind(a.Val)
			case slices.Contains(prims[f.M].Raises, a.Code):
				env, at = &mEnv{f.N, values.Int(a.Code), env}, f.Args[len(l)+1]
			default:
				panic("a strange code")
			}
		case api.JFix:
			var fns []*mFn
			for i := range f.Vars {
				x := p.Nodes[f.Args[i]]
				fns = append(fns, &mFn{vars: x.Vars, body: x.Args[0]})
			}
			for i, v := range slices.Backward(f.Vars) {
				env = &mEnv{v, fns[i], env}
			}
			for _, x := range fns {
				x.env = env
			}
			at = f.Args[len(f.Vars)]
		case api.JCall:
			x, ok := l[0].(*mFn)
			if !ok || len(x.vars) != len(l)-1 {
				return s.Outcome(api.Stuck)
			}
			at, env = x.body, x.env
			for i, v := range x.vars {
				env = &mEnv{v, l[1+i], env}
			}
		case api.JCase:
			i := slices.IndexFunc(f.Keys, func(k api.Key) bool { return asks(k, l[0]) })
			if i < 0 {
				i = len(f.Keys)
			}
			if 1+i >= len(f.Args) {
				return s.Outcome(api.Stuck)
			}
			at = f.Args[1+i]
		case api.JHalt:
			return s.Outcome(api.Done)
		default:
			return s.Raised(l[0])
		}
	}
}

// asks tells whether a key asks for a value.
func asks(k api.Key, v values.Value) bool {
	switch x := v.(type) {
	case values.Int:
		return k.Kind == api.KeyInt && k.Int == int64(x)
	case values.Text:
		return k.Kind == api.KeyStr && k.Text == string(x)
	case *values.Con:
		return k.Kind == api.KeyCon && k.Int == int64(x.Tag)
	}
	return false
}
