package lambda

import (
	"math"
	"slices"
	"strconv"
	"strings"

	"kiln/api"
	"kiln/fix"
	"kiln/flo"
	"kiln/str"
)

// The model is a second reading of the chapter: a program is gone over node by node, what waits waits in Go's own calls, variables stand in a list. Its values are int64, float64, string, *mTuple, *mCon, *mFn and *mCell.

type mTuple struct{ l []any }

type mCon struct {
	tag int
	of  any
}

type mFn struct {
	v, body int
	env     *mEnv
}

type mCell struct{ l []any }

type mEnv struct {
	v    int
	val  any
	next *mEnv
}

func (e *mEnv) find(v int) any {
	for ; e != nil; e = e.next {
		if e.v == v {
			return e.val
		}
	}
	panic("not bound: " + strconv.Itoa(v))
}

type mRaised struct{ packet any }

type mEnd struct{ status api.Status }

type model struct {
	l     []api.Term
	prims []api.Prim
	input []string
	fuel  int
	o     api.Outcome
}

// modelRun is what a program that Check takes does.
func modelRun(p api.Lambda, input []string, fuel int) api.Outcome {
	m := &model{l: p.Nodes, prims: api.Prims(), input: input, fuel: fuel}
	m.o.Status = m.ending(p.Root)
	return m.o
}

func (m *model) ending(root int) (s api.Status) {
	defer func() {
		switch x := recover().(type) {
		case nil:
		case mEnd:
			s = x.status
		case mRaised:
			s = api.Stuck
			if p, ok := x.packet.(*mTuple); ok {
				if c, ok := p.l[0].(*mCell); ok && len(c.l) > 0 {
					if name, ok := c.l[0].(string); ok {
						s, m.o.Exn = api.Uncaught, name
					}
				}
			}
		default:
			panic(x)
		}
	}()
	m.eval(root, nil)
	return api.Done
}

func (m *model) step() {
	if m.o.Steps == m.fuel {
		panic(mEnd{api.OutOfFuel})
	}
	m.o.Steps++
}

func mStuck() any { panic(mEnd{api.Stuck}) }

func (m *model) eval(i int, env *mEnv) any {
	m.step()
	x := m.l[i]
	part := func(n int) any { return m.eval(x.Args[n], env) }
	switch x.Kind {
	case api.LVar:
		return env.find(x.N)
	case api.LInt:
		return x.Int
	case api.LReal:
		return math.Float64frombits(x.Bits)
	case api.LStr:
		return x.Text
	case api.LTuple:
		t := &mTuple{}
		for n := range x.Args {
			t.l = append(t.l, part(n))
		}
		return t
	case api.LField:
		return mField(part(0), x.N)
	case api.LCon:
		return &mCon{x.N, part(0)}
	case api.LFn:
		return &mFn{x.N, x.Args[0], env}
	case api.LApp:
		f, a := part(0), part(1)
		if g, ok := f.(*mFn); ok {
			return m.eval(g.body, &mEnv{g.v, a, g.env})
		}
		return mStuck()
	case api.LLet:
		return m.eval(x.Args[1], &mEnv{x.N, part(0), env})
	case api.LFix:
		var l []*mFn
		for n := range x.Vars {
			f := m.l[x.Args[n]]
			l = append(l, &mFn{v: f.N, body: f.Args[0]})
		}
		for n, v := range slices.Backward(x.Vars) {
			env = &mEnv{v, l[n], env}
		}
		for _, f := range l {
			f.env = env
		}
		return m.eval(x.Args[len(x.Vars)], env)
	case api.LCase:
		return m.eval(x.Args[1+m.branch(x, part(0))], env)
	case api.LRaise:
		panic(mRaised{part(0)})
	case api.LHandle:
		v, packet, raised := m.guarded(x.Args[0], env)
		if raised {
			return m.eval(x.Args[1], &mEnv{x.N, packet, env})
		}
		return v
	}
	var l []any
	for n := range x.Args {
		l = append(l, part(n))
	}
	p := m.prims[x.N]
	return m.prim(p, l, func(code int) any {
		if !slices.Contains(p.Raises, code) {
			panic("a strange code")
		}
		panic(mRaised{&mTuple{[]any{env.find(code), int64(0)}}})
	})
}

func (m *model) guarded(i int, env *mEnv) (v, packet any, raised bool) {
	defer func() {
		switch x := recover().(type) {
		case nil:
		case mRaised:
			v, packet, raised = nil, x.packet, true
		default:
			panic(x)
		}
	}()
	return m.eval(i, env), nil, false
}

func mField(v any, n int) any {
	if t, ok := v.(*mTuple); ok && n < len(t.l) {
		return t.l[n]
	}
	if c, ok := v.(*mCon); ok && n == 0 {
		return c.of
	}
	return mStuck()
}

// branch is which branch of a case is taken.
func (m *model) branch(x api.Term, v any) int {
	for i, k := range x.Keys {
		n, isInt := v.(int64)
		s, isText := v.(string)
		c, isCon := v.(*mCon)
		if k.Kind == api.KeyInt && isInt && n == k.Int || k.Kind == api.KeyStr && isText && s == k.Text || k.Kind == api.KeyCon && isCon && int64(c.tag) == k.Int {
			return i
		}
	}
	if len(x.Args) == len(x.Keys)+1 {
		mStuck()
	}
	return len(x.Keys)
}

// equal looks at a pair, which is a step if it is not the first one.
func (m *model) equal(v, w any, first bool) bool {
	if !first {
		m.step()
	}
	switch x := v.(type) {
	case int64:
		if y, ok := w.(int64); ok {
			return x == y
		}
		if _, ok := w.(*mCon); ok {
			return false
		}
	case string:
		if y, ok := w.(string); ok {
			return x == y
		}
	case *mCell:
		if y, ok := w.(*mCell); ok {
			return x == y
		}
	case *mCon:
		if y, ok := w.(*mCon); ok {
			return x.tag == y.tag && m.equal(x.of, y.of, false)
		}
		if _, ok := w.(int64); ok {
			return false
		}
	case *mTuple:
		if y, ok := w.(*mTuple); ok {
			for i := range min(len(x.l), len(y.l)) {
				if !m.equal(x.l[i], y.l[i], false) {
					return false
				}
			}
			if len(x.l) == len(y.l) {
				return true
			}
		}
	}
	mStuck()
	return false
}

// mTake is an argument that is of a kind.
func mTake[A any](l []any, n int) A {
	a, ok := l[n].(A)
	if !ok {
		mStuck()
	}
	return a
}

func mTruth(b bool) any {
	if b {
		return int64(1)
	}
	return int64(0)
}

// prim is what a primitive does, by its name.
func (m *model) prim(p api.Prim, l []any, raise func(int) any) any {
	switch p.Con {
	case api.ConInt:
		return m.ofInts(p.Name, l, raise)
	case api.ConReal:
		return ofReals(p.Name, l)
	case api.ConChar:
		a, b := mTake[int64](l, 0), mTake[int64](l, 1)
		return ordered(p.Name, a < b, a == b)
	case api.ConString:
		a, b := mTake[string](l, 0), mTake[string](l, 1)
		return ordered(p.Name, a < b, a == b)
	}
	switch p.Name {
	case "div", "mod", "quot", "rem":
		return m.ofInts(p.Name, l, raise)
	case "/", "floor", "ceil", "trunc", "round", "same", "isNan", "realText":
		return m.toInts(p.Name, l, raise)
	case "=":
		return mTruth(m.equal(l[0], l[1], true))
	case "<>":
		return mTruth(!m.equal(l[0], l[1], true))
	case "ref", "!", ":=", "array", "length", "get", "set", "exn":
		return m.ofCells(p.Name, l, raise)
	}
	return m.ofTexts(p.Name, l, raise)
}

func ordered(name string, below, same bool) any {
	return mTruth(map[string]bool{"<": below, "<=": below || same, ">": !below && !same, ">=": !below}[name])
}

func (m *model) ofInts(name string, l []any, raise func(int) any) any {
	a := mTake[int64](l, 0)
	b := a
	if len(l) > 1 {
		b = mTake[int64](l, 1)
	}
	var n int64
	var e api.Errno
	switch name {
	case "+":
		n = a + b
	case "-":
		n = a - b
	case "~":
		n = -a
	case "abs":
		n = max(a, -a)
	case "*":
		n, e = fix.Mul(a, b)
	case "div":
		n, e = fix.Div(a, b)
	case "mod":
		n, e = fix.Mod(a, b)
	case "quot":
		n, e = fix.Quot(a, b)
	case "rem":
		n, e = fix.Rem(a, b)
	default:
		return ordered(name, a < b, a == b)
	}
	switch {
	case e == api.ErrDiv:
		return raise(3)
	case e != 0 || n < api.MinFix || n > api.MaxFix:
		return raise(6)
	}
	return n
}

func ofReals(name string, l []any) any {
	a := mTake[float64](l, 0)
	b := a
	if len(l) > 1 {
		b = mTake[float64](l, 1)
	}
	switch name {
	case "+":
		return a + b
	case "-":
		return a - b
	case "*":
		return a * b
	case "~":
		return -a
	case "abs":
		return math.Abs(a)
	case ">":
		return mTruth(a > b)
	case ">=":
		return mTruth(a >= b)
	}
	return ordered(name, a < b, a == b)
}

// toInts are the other ones of reals.
func (m *model) toInts(name string, l []any, raise func(int) any) any {
	a := mTake[float64](l, 0)
	switch name {
	case "/":
		return a / mTake[float64](l, 1)
	case "same":
		return mTruth(a == mTake[float64](l, 1))
	case "isNan":
		return mTruth(a != a)
	case "realText":
		return flo.Text(a)
	}
	x := map[string]func(float64) float64{"floor": math.Floor, "ceil": math.Ceil, "trunc": math.Trunc, "round": math.RoundToEven}[name](a)
	switch {
	case x != x:
		return raise(4)
	case x < -(1<<62) || x >= 1<<62:
		return raise(6)
	}
	return int64(x)
}

func (m *model) ofCells(name string, l []any, raise func(int) any) any {
	switch name {
	case "ref":
		return &mCell{[]any{l[0]}}
	case "exn":
		return &mCell{[]any{mTake[string](l, 0)}}
	case "array":
		n := mTake[int64](l, 0)
		if n < 0 || n > 1048576 {
			return raise(7)
		}
		return &mCell{slices.Repeat([]any{l[1]}, int(n))}
	}
	c := mTake[*mCell](l, 0)
	switch name {
	case "length":
		return int64(len(c.l))
	case "!", ":=":
		if len(c.l) == 0 {
			return mStuck()
		}
		if name == "!" {
			return c.l[0]
		}
		c.l[0] = l[1]
		return int64(0)
	}
	i := mTake[int64](l, 1)
	if i < 0 || i >= int64(len(c.l)) {
		return raise(8)
	}
	if name == "get" {
		return c.l[i]
	}
	c.l[i] = l[2]
	return int64(0)
}

func (m *model) ofTexts(name string, l []any, raise func(int) any) any {
	switch name {
	case "real":
		return float64(mTake[int64](l, 0))
	case "intText":
		return strings.ReplaceAll(strconv.FormatInt(mTake[int64](l, 0), 10), "-", "~")
	case "ord", "str", "chr":
		n := mTake[int64](l, 0)
		switch {
		case name == "chr" && (n < 0 || n > 255):
			return raise(2)
		case n < 0 || n > 255:
			return mStuck()
		case name == "str":
			return string([]byte{byte(n)})
		}
		return n
	case "input":
		mTake[int64](l, 0)
		if len(m.input) == 0 {
			return ""
		}
		s := m.input[0] + "\n"
		m.input = m.input[1:]
		return s[:min(len(s), 65536)]
	}
	s := mTake[string](l, 0)
	switch name {
	case "print":
		m.o.Out = append(m.o.Out, s)
		return int64(0)
	case "size":
		return int64(len(s))
	case "^":
		if s += mTake[string](l, 1); len(s) > 65536 {
			return raise(7)
		}
		return s
	case "sub":
		i := mTake[int64](l, 1)
		if i < 0 || i >= int64(len(s)) {
			return raise(8)
		}
		return int64(s[i])
	case "substring":
		i, n := mTake[int64](l, 1), mTake[int64](l, 2)
		t, e := str.Cut(s, i, n)
		if e != 0 {
			return raise(8)
		}
		return t
	case "intScan":
		n, size, e := fix.Scan(s)
		switch e {
		case api.ErrOverflow:
			return raise(6)
		case api.ErrDigits:
			return &mTuple{[]any{int64(0), int64(0)}}
		}
		return &mTuple{[]any{n, int64(size)}}
	}
	return scanned(s) // realScan
}

func scanned(s string) any {
	rest := strings.TrimLeft(s, "\t\n\v\f\r ")
	for n := len(rest); n > 0; n-- {
		if x, e := flo.Parse(rest[:n]); e == 0 {
			return &mTuple{[]any{x, int64(len(s) - len(rest) + n)}}
		}
	}
	return &mTuple{[]any{0.0, int64(0)}}
}
