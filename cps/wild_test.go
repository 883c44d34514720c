package cps

import (
	"math/rand"
	"slices"
	"testing"

	"kiln/api"
)

// The types of what moves bind in programs that are grown at random.
const (
	wInt = iota
	wStr
	wReal
	wPair   // of wInt and wStr
	wList   // the int 0, or a constructor's value with the tag 1 of a wPair
	wRef    // of a wInt
	wArr    // of wStrs
	wPacket // of what is raised
	wFn0    // a function of nothing
	wFn1    // of a wInt
	wFn2    // of a wStr and a wFn1
	wFn3    // of a wList, a wFn0 and a wReal
	wTypes
)

// takesOf are the types of a function's parameters.
func takesOf(t int) []int {
	return [][]int{{}, {wInt}, {wStr, wFn1}, {wList, wFn0, wReal}}[t-wFn0]
}

// weed grows programs of moves: a variable's number says its type.
type weed struct {
	*desk
	r     *rand.Rand
	pool  []weeded
	wrong int // of how many atoms one is of another type than it must be; 0: of none
}

// weeded is a move, and the variables that may be free in it.
type weeded struct {
	at   int
	free []int
}

const perType = 3

func typeOf(v int) int { return (v - 20) / perType }

func (w *weed) variable(t int) int { return 20 + perType*t + w.r.Intn(perType) }

// known are the variables of a type in a scope.
func known(t int, scope []int) []int {
	return slices.DeleteFunc(slices.Clone(scope), func(v int) bool { return typeOf(v) != t })
}

// with hands on an atom of a type, which is bound ahead, if there is none.
func (w *weed) with(t int, scope []int, deep int, rest func(a int, scope []int) int) int {
	if w.wrong > 0 && w.r.Intn(w.wrong) == 0 {
		t = w.r.Intn(wTypes)
	}
	if l := known(t, scope); len(l) > 0 && w.r.Intn(5) > 0 {
		return rest(w.v(l[w.r.Intn(len(l))]), scope)
	}
	switch t {
	case wInt:
		return rest(w.i([]int64{0, 0, 1, 1, 2, 3, -1, 255, 256, api.MaxFix, api.MinFix}[w.r.Intn(11)]), scope)
	case wStr:
		return rest(w.s([]string{"", "a", "bc", " 12x", "~1.5E2", "9999999999999999999", "\xff\n"}[w.r.Intn(7)]), scope)
	case wReal:
		return rest(w.r64(), scope)
	}
	return w.bind(t, scope, deep, func(v int, scope []int) int { return rest(w.v(v), scope) })
}

func (w *weed) r64() int {
	l := []uint64{0, 1 << 63, 0x3FF8000000000000, 0xC004000000000000, 0x7FF0000000000000, 0x7FF8000000000001, 0x43D0000000000000}
	return w.put(api.Flow{Kind: api.JReal, Bits: l[w.r.Intn(len(l))]})
}

// all hands on atoms of some types.
func (w *weed) all(types []int, scope []int, deep int, rest func(l []int, scope []int) int) int {
	if len(types) == 0 {
		return rest(nil, scope)
	}
	return w.with(types[0], scope, deep, func(a int, scope []int) int {
		return w.all(types[1:], scope, deep, func(l []int, scope []int) int { return rest(append([]int{a}, l...), scope) })
	})
}

// bind binds a variable to something of a type.
func (w *weed) bind(t int, scope []int, deep int, rest func(v int, scope []int) int) int {
	v := w.variable(t)
	more := append(slices.Clone(scope), v)
	then := func() int { return rest(v, more) }
	prim := func(name string, types ...int) int {
		return w.all(types, scope, deep, func(l []int, _ []int) int { return w.primitive(v, name, l, more, deep, then) })
	}
	switch t {
	case wPair:
		return w.all([]int{wInt, wStr}, scope, deep, func(l []int, _ []int) int { return w.tuple(v, append(l, then())...) })
	case wList:
		if w.r.Intn(3) == 0 {
			return w.with(wPair, scope, deep, func(a int, scope []int) int { return w.con(v, 1, a, then()) })
		}
		return w.con(v, 1+w.r.Intn(2), w.i(0), then())
	case wRef:
		return prim("ref", wInt)
	case wArr:
		return w.primitive(v, "array", []int{w.i(int64(w.r.Intn(4))), w.s("x")}, more, deep, then)
	case wPacket:
		cell := w.variable(wRef)
		return w.prim(cell, "exn", w.s("E"), w.tuple(v, w.v(cell), w.i(0), then()))
	case wFn0, wFn1, wFn2, wFn3:
		return w.functions(v, more, deep, then)
	case wStr:
		switch w.r.Intn(6) {
		case 0:
			return prim("^", wStr, wStr)
		case 1:
			return prim("intText", wInt)
		case 2:
			return prim("input", wInt)
		case 3:
			return prim("get", wArr, wInt)
		case 4:
			return w.with(wPair, scope, deep, func(a int, _ []int) int { return w.field(v, 1, a, then()) })
		}
		return prim("substring", wStr, wInt, wInt)
	case wReal:
		return prim([]string{"+ real", "/", "* real"}[w.r.Intn(3)], wReal, wReal)
	}
	return w.bindInt(v, scope, deep, then, prim)
}

func (w *weed) bindInt(v int, scope []int, deep int, then func() int, prim func(string, ...int) int) int {
	switch w.r.Intn(8) {
	case 0:
		return prim("size", wStr)
	case 1:
		return w.with(wPair, scope, deep, func(a int, _ []int) int { return w.field(v, 0, a, then()) })
	case 2:
		return prim("!", wRef)
	case 3:
		return prim(":=", wRef, wInt)
	case 4:
		t := []int{wInt, wStr, wPair, wList, wRef, wArr}[w.r.Intn(6)]
		return prim([]string{"=", "<>"}[w.r.Intn(2)], t, t)
	case 5:
		return prim([]string{"floor", "round", "isNan"}[w.r.Intn(3)], wReal)
	case 6:
		return prim("set", wArr, wInt, wStr)
	}
	return prim([]string{"+", "-", "*", "div", "mod", "<", ">="}[w.r.Intn(7)], wInt, wInt)
}

// primitive is one with its arguments; where it raises, its variable, which is an int then, has a number of its own there.
func (w *weed) primitive(v int, name string, args []int, more []int, deep int, then func() int) int {
	m := placeOf(name)
	args = append(args, then())
	if len(api.Prims()[m].Raises) > 0 {
		scope := slices.DeleteFunc(slices.Clone(more), func(x int) bool { return x == v && typeOf(v) != wInt })
		args = append(args, w.move(scope, deep-1))
	}
	return w.put(api.Flow{Kind: api.JPrim, N: v, M: m, Args: args})
}

// functions binds a function, and perhaps others with it.
func (w *weed) functions(v int, more []int, deep int, then func() int) int {
	vs := []int{v}
	for w.r.Intn(2) == 0 {
		vs = append(vs, w.variable(wFn0+w.r.Intn(4)))
	}
	inner := append(slices.Clone(more), vs...)
	var args []int
	for _, f := range vs {
		var params []int
		for _, t := range takesOf(typeOf(f)) {
			params = append(params, w.variable(t))
		}
		args = append(args, w.fn(params, w.move(append(slices.Clone(inner), params...), deep-1)))
	}
	return w.fix(vs, append(args, then())...)
}

// move is a move, in which the variables of scope may be free.
func (w *weed) move(scope []int, deep int) int {
	if w.r.Intn(8) == 0 {
		fits := func(x weeded) bool {
			return !slices.ContainsFunc(x.free, func(v int) bool { return !slices.Contains(scope, v) })
		}
		if i := slices.IndexFunc(w.pool, fits); i >= 0 {
			return w.pool[i].at
		}
	}
	at := w.plain(scope, deep)
	w.pool = append(w.pool, weeded{at, scope})
	if i := w.r.Intn(len(w.pool)); i > 0 {
		w.pool[i], w.pool[0] = w.pool[0], w.pool[i]
	}
	return at
}

func (w *weed) plain(scope []int, deep int) int {
	if deep <= 0 {
		return w.last(scope)
	}
	sub := func(scope []int) int { return w.move(scope, deep-1) }
	switch w.r.Intn(10) {
	case 0:
		return w.last(scope)
	case 1:
		return w.with(wStr, scope, deep, func(a int, scope []int) int { return w.prim(99, "print", a, sub(scope)) })
	case 2:
		return w.with(wInt, scope, deep, func(a int, scope []int) int { return w.say(a, sub(scope)) })
	case 3:
		return w.with(wInt, scope, deep, func(a int, scope []int) int {
			return w.choose([]api.Key{kInt(0), kInt(1), kInt(int64(w.r.Intn(4)))}, a, sub(scope), sub(scope), sub(scope), sub(scope))
		})
	case 4:
		return w.with(wStr, scope, deep, func(a int, scope []int) int {
			return w.choose([]api.Key{kStr("a"), kStr("")}, a, sub(scope), sub(scope), sub(scope))
		})
	case 5:
		return w.with(wList, scope, deep, func(a int, scope []int) int {
			return w.choose([]api.Key{kCon(1), kInt(0)}, a, sub(scope), sub(scope), sub(scope))
		})
	case 6, 7:
		if l := slices.DeleteFunc(slices.Clone(scope), func(v int) bool { return typeOf(v) < wFn0 }); len(l) > 0 {
			f := l[w.r.Intn(len(l))]
			return w.all(takesOf(typeOf(f)), scope, deep-2, func(l []int, _ []int) int { return w.call(append([]int{w.v(f)}, l...)...) })
		}
	}
	return w.bind(w.r.Intn(wTypes), scope, deep-1, func(_ int, scope []int) int { return sub(scope) })
}

// last is a move behind which nothing comes.
func (w *weed) last(scope []int) int {
	if l := known(wPacket, scope); len(l) > 0 && w.r.Intn(2) == 0 {
		return w.fail(w.v(l[0]))
	}
	if l := known(wFn0, scope); len(l) > 0 && w.r.Intn(3) > 0 {
		return w.call(w.v(l[0]))
	}
	if l := known(wFn1, scope); len(l) > 0 && w.r.Intn(3) > 0 {
		return w.call(w.v(l[0]), w.i(int64(w.r.Intn(3))))
	}
	if len(scope) > 0 && w.r.Intn(3) > 0 {
		return w.halt(w.v(scope[w.r.Intn(len(scope))]))
	}
	return w.done()
}

// wildFlow is a program at random; of some of them an atom has another type than it must.
func wildFlow(seed int64) api.Cps {
	r := rand.New(rand.NewSource(seed))
	w := &weed{desk: &desk{}, r: r}
	if r.Intn(3) == 0 {
		w.wrong = 40
	}
	return w.program(w.move(nil, 3+r.Intn(5)))
}

// lines are what the programs at random read.
func lines() []string { return []string{"12", "", "3.5 x"} }

// heldRun holds a program at random against the model, with some fuel.
func heldRun(t *testing.T, seed int64, p api.Cps, fuel int) api.Outcome {
	t.Helper()
	got, e := Run(p, lines(), fuel)
	if e != api.OK {
		t.Fatalf("seed %d: %d", seed, e)
	}
	if want := modelRun(p, lines(), fuel); !sameOutcome(got, want) {
		t.Fatalf("seed %d with %d: %s, %d steps; want %s, %d steps", seed, fuel, showOutcome(got), got.Steps, showOutcome(want), want.Steps)
	}
	return got
}

// P13.3: programs at random do what the chapter's words say.
func TestRandom(t *testing.T) {
	t.Parallel()
	ends, kinds := map[api.Status]int{}, map[api.FlowKind]int{}
	for seed := range int64(5000) {
		p := wildFlow(seed)
		o := heldRun(t, seed, p, 2000)
		ends[o.Status]++
		heldRun(t, seed, p, int(seed%30))
		heldRun(t, seed, p, o.Steps)
		heldRun(t, seed, p, max(0, o.Steps-1))
		for _, f := range p.Nodes {
			kinds[f.Kind]++
		}
	}
	for _, s := range []api.Status{api.Done, api.Uncaught, api.OutOfFuel, api.Stuck} {
		if ends[s] < 30 {
			t.Errorf("few programs end so: %v", ends)
		}
	}
	for k := api.JVar; k <= api.JFail; k++ {
		if kinds[k] < 500 {
			t.Errorf("few nodes are such: %v", kinds)
		}
	}
	t.Log(ends, kinds)
}

// P13.5: with more fuel a run that ended otherwise ends the same; one out of fuel has printed a beginning.
func TestMoreFuel(t *testing.T) {
	t.Parallel()
	for seed := range int64(150) {
		p := wildFlow(seed)
		last, e := Run(p, lines(), 2000)
		if e != api.OK {
			t.Fatal(e)
		}
		for fuel := min(last.Steps+3, 500); fuel >= 0; fuel-- {
			o, _ := Run(p, lines(), fuel)
			switch {
			case o.Status != api.OutOfFuel && !sameOutcome(o, last):
				t.Fatalf("seed %d with %d: %s; with more: %s", seed, fuel, showOutcome(o), showOutcome(last))
			case !begins(o.Out, last.Out):
				t.Fatalf("seed %d with %d: %q; with more: %q", seed, fuel, o.Out, last.Out)
			case o.Status == api.OutOfFuel && (o.Steps != fuel || fuel > last.Steps):
				t.Fatalf("seed %d with %d: %d steps", seed, fuel, o.Steps)
			}
		}
		more, _ := Run(p, lines(), api.MaxFuel/1024)
		if last.Status != api.OutOfFuel && !sameOutcome(more, last) {
			t.Fatalf("seed %d: %s; with more: %s", seed, showOutcome(last), showOutcome(more))
		}
	}
}
