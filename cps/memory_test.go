package cps

import (
	"reflect"
	"slices"
	"strings"
	"testing"
	"unsafe"

	"kiln/api"
)

// spans are the pieces of memory that a value points to: of texts and lists.
func spans(v reflect.Value, l *[][2]uintptr) {
	switch v.Kind() {
	case reflect.String:
		if v.Len() > 0 {
			from := uintptr(unsafe.Pointer(unsafe.StringData(v.String())))
			*l = append(*l, [2]uintptr{from, from + uintptr(v.Len())})
		}
	case reflect.Slice:
		if v.Cap() > 0 {
			from := v.Pointer()
			*l = append(*l, [2]uintptr{from, from + uintptr(v.Cap())*v.Type().Elem().Size()})
		}
		for i := range v.Len() {
			spans(v.Index(i), l)
		}
	case reflect.Struct:
		for i := range v.NumField() {
			spans(v.Field(i), l)
		}
	}
}

// shared tells whether two of these answers, or two lists or texts of one of them, or an answer and another value, share memory.
func shared(answers []any, others ...any) bool {
	var mine, all [][2]uintptr
	for _, a := range answers {
		spans(reflect.ValueOf(a), &mine)
	}
	for _, a := range others {
		spans(reflect.ValueOf(a), &all)
	}
	for i, x := range mine {
		for _, y := range slices.Concat(mine[:i], all) {
			if x[0] < y[1] && y[0] < x[1] {
				return true
			}
		}
	}
	return false
}

// copied is a list of nodes in new memory.
func copied[N any](l []N, fields func(N) N) []N {
	var all []N
	for _, n := range l {
		all = append(all, fields(n))
	}
	return all
}

func copiedTerm(x api.Term) api.Term {
	x.Text = strings.Clone(x.Text)
	x.Vars, x.Args, x.Keys = slices.Clone(x.Vars), slices.Clone(x.Args), slices.Clone(x.Keys)
	return x
}

func copiedFlow(x api.Flow) api.Flow {
	x.Text = strings.Clone(x.Text)
	x.Vars, x.Args, x.Keys = slices.Clone(x.Vars), slices.Clone(x.Args), slices.Clone(x.Keys)
	return x
}

// loaded is a program that prints what it was given, in many ways, and its lines.
func loaded() (api.Lambda, []string) {
	d := &pen{}
	line := d.prim("input", d.i(0))
	say := func(a int) int { return d.prim("print", a) }
	text := d.s("some text of it")
	root := d.seq(say(text), say(text), say(d.s("")), say(line), say(line), say(line), say(d.prim("substring", text, d.i(0), d.i(15))), say(d.prim("^", text, d.s(""))),
		d.let(20, text, d.tuple(say(d.v(20)), say(d.prim("!", d.prim("ref", d.v(20)))))), say(d.prim("str", d.i(65))), say(d.prim("str", d.i(65))), say(d.prim("intText", d.i(5))),
		d.choose([]api.Key{kStr("other"), kStr("some text of it")}, text, d.i(0), d.i(1)), d.choose([]api.Key{kStr("other"), kInt(5)}, text, d.i(0), d.i(1), d.i(2)),
		d.fix([]int{21, 22}, d.fn(23, d.v(23)), d.fn(23, d.v(23)), d.app(d.v(21), d.v(22))),
		d.raise(d.tuple(d.prim("exn", text), d.i(0))))
	return d.whole(root), []string{"a line of it", "a line of it", strings.Repeat("x", api.MaxString)}
}

// Rule 4: what is handed in is not changed, and what is told is one's own.
func TestMemory(t *testing.T) {
	p, input := loaded()
	terms, lines := copied(p.Nodes, copiedTerm), slices.Clone(input)
	q, e := Convert(p)
	again, _ := Convert(p)
	if e != api.OK || !reflect.DeepEqual(p.Nodes, terms) || !reflect.DeepEqual(q, again) {
		t.Fatalf("Convert: %d, or an argument was changed", e)
	}
	if shared([]any{q, again}, p) {
		t.Error("Convert: shared memory")
	}
	flows := copied(q.Nodes, copiedFlow)
	same := func(name string) {
		t.Helper()
		if !reflect.DeepEqual(q.Nodes, flows) || !slices.Equal(input, lines) {
			t.Fatalf("%s: an argument was changed", name)
		}
	}
	Check(q)
	same("Check")
	o, e := Run(q, input, 10000)
	same("Run")
	if e != api.OK || o.Status != api.Uncaught || o.Exn != "some text of it" || len(o.Out) != 13 {
		t.Fatalf("%s, %d", showOutcome(o), e)
	}
	another, _ := Run(q, input, 10000)
	fn := slices.IndexFunc(q.Nodes, func(f api.Flow) bool { return f.Kind == api.JCall })
	free, other := Free(q.Nodes, fn), Free(q.Nodes, fn)
	same("Free")
	if len(free) == 0 || !sameOutcome(o, another) {
		t.Fatalf("%v, %s", free, showOutcome(another))
	}
	if shared([]any{o, another, free, other}, q, input, p) {
		t.Error("shared memory")
	}
	clear(free)
	clear(o.Out)
	for _, f := range again.Nodes {
		clear(f.Args)
		clear(f.Vars)
		clear(f.Keys)
	}
	third, _ := Run(q, input, 10000)
	if !slices.Equal(other, Free(q.Nodes, fn)) || !sameOutcome(another, third) || !reflect.DeepEqual(p.Nodes, terms) {
		t.Error("what was told is kept")
	}
}

// Rule 4: Free's answer is one's own, too, where it is what a node has.
func TestFreeMemory(t *testing.T) {
	l := []api.Flow{{Kind: api.JVar, N: 5}, {Kind: api.JFix, Vars: []int{7, 6}, Args: []int{0, 0}}, {Kind: api.JCall, Args: []int{0, 5, 0, -1}}, {Kind: api.JTuple, N: 3, Args: []int{0, 4, 2}}, {Kind: api.JFn, Vars: []int{6}, Args: []int{2}}}
	k := copied(l, copiedFlow)
	for i := range l {
		got := Free(l, i)
		if !slices.Equal(got, []int{5}) || shared([]any{got}, l) {
			t.Errorf("of the node %d: %v", i, got)
		}
	}
	if !reflect.DeepEqual(l, k) {
		t.Error("an argument was changed")
	}
}

// Rule 4: nil and empty lists are the same.
func TestEmptyLists(t *testing.T) {
	p, input := loaded()
	q := converts(t, "loaded", p)
	want, _ := Run(q, input, 10000)
	terms := copied(p.Nodes, func(x api.Term) api.Term {
		if x.Vars == nil {
			x.Vars = []int{}
		}
		if x.Args == nil {
			x.Args = []int{}
		}
		if x.Keys == nil {
			x.Keys = []api.Key{}
		}
		return x
	})
	if other := converts(t, "loaded", api.Lambda{Nodes: terms, Root: p.Root}); !reflect.DeepEqual(q, other) {
		t.Error("Convert")
	}
	flows := copied(q.Nodes, func(x api.Flow) api.Flow {
		if x.Vars == nil {
			x.Vars = []int{}
		}
		if x.Args == nil {
			x.Args = []int{}
		}
		if x.Keys == nil {
			x.Keys = []api.Key{}
		}
		return x
	})
	if got, e := Run(api.Cps{Nodes: flows, Root: q.Root}, input, 10000); e != api.OK || !sameOutcome(got, want) {
		t.Errorf("%s, %d", showOutcome(got), e)
	}
	d := &desk{}
	one := d.program(d.prim(1, "input", d.i(0), d.prim(2, "print", d.v(1), d.done())))
	a, _ := Run(one, nil, 10)
	b, _ := Run(one, []string{}, 10)
	if !sameOutcome(a, b) {
		t.Errorf("%s, %s", showOutcome(a), showOutcome(b))
	}
	if Check(api.Cps{Nodes: []api.Flow{}}) != Check(api.Cps{}) || len(Free([]api.Flow{}, 0)) != 0 {
		t.Error("Check, or Free")
	}
}

// Rule 5: answers hang on nothing but what was given; two calls at the same time know nothing of one another.
func TestAtOnce(t *testing.T) {
	p, input := loaded()
	q := converts(t, "loaded", p)
	want, _ := Run(q, input, 10000)
	type answer struct {
		q api.Cps
		o api.Outcome
	}
	answers := make(chan answer)
	for range 8 {
		go func() {
			a, _ := Convert(p)
			o, _ := Run(q, input, 10000)
			answers <- answer{a, o}
		}()
	}
	for range 8 {
		if a := <-answers; !sameOutcome(a.o, want) || !reflect.DeepEqual(a.q, q) {
			t.Errorf("%s", showOutcome(a.o))
		}
	}
}

// Rule 8: what a kind of node or key does not name is not told by Convert, and changes nothing in Run.
func TestOtherFields(t *testing.T) {
	p, input := loaded()
	q := converts(t, "loaded", p)
	noisy := copied(p.Nodes, func(x api.Term) api.Term {
		switch x.Kind {
		case api.LVar, api.LFn, api.LLet, api.LHandle, api.LField, api.LCon, api.LPrim:
		default:
			x.N = -7
		}
		if x.Kind != api.LInt {
			x.Int = -1 << 63
		}
		if x.Kind != api.LReal {
			x.Bits = 77
		}
		if x.Kind != api.LStr {
			x.Text = strings.Repeat("a", api.MaxString+1)
		}
		if x.Kind != api.LFix {
			x.Vars = []int{-1}
		}
		if x.Kind != api.LCase {
			x.Keys = []api.Key{{}}
		}
		for i, k := range x.Keys {
			if k.Kind == api.KeyStr {
				x.Keys[i].Int = -3
			} else {
				x.Keys[i].Text = strings.Repeat("a", api.MaxString+1)
			}
		}
		if x.Kind <= api.LStr {
			x.Args = []int{1 << 40, -1}
		}
		return x
	})
	if other := converts(t, "noisy", api.Lambda{Nodes: noisy, Root: p.Root}); !reflect.DeepEqual(q, other) {
		t.Error("Convert")
	}
	want, _ := Run(q, input, 10000)
	flows := copied(q.Nodes, noisyFlow)
	if got, e := Run(api.Cps{Nodes: flows, Root: q.Root}, input, 10000); e != api.OK || !sameOutcome(got, want) {
		t.Errorf("%s, %d", showOutcome(got), e)
	}
}

// noisyFlow is a node with anything in what its kind does not name.
func noisyFlow(x api.Flow) api.Flow {
	x = copiedFlow(x)
	binds := x.Kind == api.JTuple || x.Kind == api.JCon || x.Kind == api.JField || x.Kind == api.JPrim
	if !binds && x.Kind != api.JVar {
		x.N = -7
	}
	if !binds || x.Kind == api.JTuple {
		x.M = -8
	}
	if x.Kind != api.JInt {
		x.Int = -1 << 63
	}
	if x.Kind != api.JReal {
		x.Bits = 77
	}
	if x.Kind != api.JStr {
		x.Text = strings.Repeat("a", api.MaxString+1)
	}
	if x.Kind != api.JFix && x.Kind != api.JFn {
		x.Vars = []int{-1, -1}
	}
	if x.Kind != api.JCase {
		x.Keys = []api.Key{{}}
	}
	for i, k := range x.Keys {
		if k.Kind == api.KeyStr {
			x.Keys[i].Int = -3
		} else {
			x.Keys[i].Text = strings.Repeat("a", api.MaxString+1)
		}
	}
	if x.Kind <= api.JStr {
		x.Args = []int{1 << 40, -1}
	}
	return x
}
