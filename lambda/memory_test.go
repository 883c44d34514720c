package lambda

import (
	"reflect"
	"slices"
	"strings"
	"testing"
	"unsafe"

	"kiln/api"
)

// spans are the pieces of memory that a value points to: of texts and lists.
func spans(v reflect.Value, l *[][2]uintptr) {
	switch v.Kind() {
	case reflect.String:
		if v.Len() > 0 {
			from := uintptr(unsafe.Pointer(unsafe.StringData(v.String())))
			*l = append(*l, [2]uintptr{from, from + uintptr(v.Len())})
		}
	case reflect.Slice:
		if v.Cap() > 0 {
			from := v.Pointer()
			*l = append(*l, [2]uintptr{from, from + uintptr(v.Cap())*v.Type().Elem().Size()})
		}
		for i := range v.Len() {
			spans(v.Index(i), l)
		}
	case reflect.Struct:
		for i := range v.NumField() {
			spans(v.Field(i), l)
		}
	}
}

// shared tells whether two of these answers, or two lists or texts of one of them, or an answer and another value, share memory.
func shared(answers []any, others ...any) bool {
	var mine, all [][2]uintptr
	for _, a := range answers {
		spans(reflect.ValueOf(a), &mine)
	}
	for _, a := range others {
		spans(reflect.ValueOf(a), &all)
	}
	for i, x := range mine {
		for _, y := range slices.Concat(mine[:i], all) {
			if x[0] < y[1] && y[0] < x[1] {
				return true
			}
		}
	}
	return false
}

// copied is a program in new memory.
func copied(p api.Lambda) api.Lambda {
	q := api.Lambda{Root: p.Root}
	for _, x := range p.Nodes {
		x.Text = strings.Clone(x.Text)
		x.Vars, x.Args, x.Keys = slices.Clone(x.Vars), slices.Clone(x.Args), slices.Clone(x.Keys)
		q.Nodes = append(q.Nodes, x)
	}
	return q
}

// full is a program that prints what it was given, in many ways, and its lines.
func full() (api.Lambda, []string) {
	d := &desk{}
	line := d.prim("input", d.i(0))
	say := func(a int) int { return d.prim("print", a) }
	text := d.s("some text of it")
	root := d.seq(say(text), say(text), say(d.s("")), say(line), say(line), say(line), say(d.prim("substring", text, d.i(0), d.i(15))), say(d.prim("^", text, d.s(""))),
		d.let(20, text, d.tuple(say(d.v(20)), say(d.prim("!", d.prim("ref", d.v(20)))))), say(d.prim("str", d.i(65))), say(d.prim("str", d.i(65))), say(d.prim("intText", d.i(5))),
		d.choose([]api.Key{kStr("other"), kStr("some text of it")}, text, d.i(0), d.i(1)),
		d.fix([]int{21, 22}, d.fn(23, d.v(23)), d.fn(23, d.v(23)), d.app(d.v(21), d.v(22))),
		d.raise(d.tuple(d.prim("exn", text), d.i(0))))
	return d.whole(root), []string{"a line of it", "a line of it", strings.Repeat("x", api.MaxString)}
}

// Rule 4: what is handed in is not changed, and what is told is one's own.
func TestMemory(t *testing.T) {
	p, input := full()
	q, lines := copied(p), slices.Clone(input)
	same := func(name string) {
		t.Helper()
		if !reflect.DeepEqual(p, q) || !slices.Equal(input, lines) {
			t.Fatalf("%s: an argument was changed", name)
		}
	}
	if e := Check(p); e != api.OK {
		t.Fatal(e)
	}
	same("Check")
	o, e := Run(p, input, 10000)
	same("Run")
	if e != api.OK || o.Status != api.Uncaught || o.Exn != "some text of it" || len(o.Out) != 13 {
		t.Fatalf("%s, %d", showOutcome(o), e)
	}
	again, _ := Run(p, input, 10000)
	root := slices.IndexFunc(p.Nodes, func(x api.Term) bool { return x.Kind == api.LPrim && len(api.Prims()[x.N].Raises) > 0 })
	free, other := Free(p.Nodes, root), Free(p.Nodes, root)
	same("Free")
	if len(free) == 0 || !sameOutcome(o, again) {
		t.Fatalf("%v, %s", free, showOutcome(again))
	}
	if shared([]any{o, again, free, other}, p, input) {
		t.Error("shared memory")
	}
	clear(free)
	clear(o.Out)
	if !slices.Equal(other, Free(p.Nodes, root)) || !slices.Equal(again.Out, must(Run(p, input, 10000)).Out) {
		t.Error("what was told is kept")
	}
}

func must(o api.Outcome, _ api.Errno) api.Outcome { return o }

// Rule 4: Free's answer is one's own, too, where it is what a node has.
func TestFreeMemory(t *testing.T) {
	l := []api.Term{{Kind: api.LVar, N: 5}, {Kind: api.LFix, Vars: []int{7, 6}, Args: []int{0, 0}}, {Kind: api.LTuple, Args: []int{5, 1, 0, -1}}}
	k := copied(api.Lambda{Nodes: l})
	for i := range l {
		got := Free(l, i)
		if !slices.Equal(got, []int{5}) || shared([]any{got}, l) {
			t.Errorf("of the node %d: %v", i, got)
		}
	}
	if !reflect.DeepEqual(l, k.Nodes) {
		t.Error("an argument was changed")
	}
}

// Rule 4: nil and empty lists are the same.
func TestEmptyLists(t *testing.T) {
	p, input := full()
	want, _ := Run(p, input, 10000)
	q := copied(p)
	for i, x := range q.Nodes {
		if x.Vars == nil {
			q.Nodes[i].Vars = []int{}
		}
		if x.Args == nil {
			q.Nodes[i].Args = []int{}
		}
		if x.Keys == nil {
			q.Nodes[i].Keys = []api.Key{}
		}
	}
	if got, e := Run(q, input, 10000); e != api.OK || !sameOutcome(got, want) {
		t.Errorf("%s, %d", showOutcome(got), e)
	}
	d := &desk{}
	one := d.program(d.prim("print", d.prim("input", d.i(0))))
	if a, b := must(Run(one, nil, 10)), must(Run(one, []string{}, 10)); !sameOutcome(a, b) {
		t.Errorf("%s, %s", showOutcome(a), showOutcome(b))
	}
	if a, b := Check(api.Lambda{Nodes: []api.Term{}}), Check(api.Lambda{}); a != b {
		t.Errorf("%d, %d", a, b)
	}
}

// Rule 5: a run hangs on nothing but what it was given; two at the same time know nothing of one another.
func TestAtOnce(t *testing.T) {
	p, input := full()
	want, _ := Run(p, input, 10000)
	answers := make(chan api.Outcome)
	for range 8 {
		go func() { answers <- must(Run(p, input, 10000)) }()
	}
	for range 8 {
		if o := <-answers; !sameOutcome(o, want) {
			t.Errorf("%s", showOutcome(o))
		}
	}
}
