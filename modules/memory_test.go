package modules

import (
	"reflect"
	"slices"
	"strings"
	"testing"
	"unsafe"

	"kiln/api"
	"kiln/elab"
)

// Rule 3: all methods of a checker that is nil, or that New did not make.
func TestNoChecker(t *testing.T) {
	good := played(t, "signature G = sig end functor F (X : G) = X structure S = struct val x = 1 end")
	copied := *good.m
	for name, m := range map[string]*Mods{"nil": nil, "zero": {}, "a copy": &copied} {
		if m.Elab() != nil || len(m.Sigs()) != 0 || len(m.Functors()) != 0 {
			t.Errorf("%s tells something", name)
		}
		for i := -1; i < len(good.l); i++ {
			if len(m.Parts(i)) != 0 {
				t.Errorf("%s: Parts(%d)", name, i)
			}
		}
		for _, root := range []int{-1, good.root, good.root - 1} {
			if line, column, e := m.Program(byNumber(good.l), root); line != 0 || column != 0 || e != api.ErrNil {
				t.Errorf("%s: Program: %d, %d, %v", name, line, column, e)
			}
		}
		if line, column, e := m.Program(nil, 0); line != 0 || column != 0 || e != api.ErrNil {
			t.Errorf("%s: Program of nothing: %d, %d, %v", name, line, column, e)
		}
	}
	if got := good.names(); got != "structure S, signature G, functor F" {
		t.Errorf("a copy's calls were this one's: %s", got)
	}
}

// P10.2: the elaborator is one and the same, and each checker has its own.
func TestElab(t *testing.T) {
	m, other := New(), New()
	if m.Elab() == nil || m.Elab() != m.Elab() || m.Elab() == other.Elab() {
		t.Error("Elab")
	}
	l, root := bareTree(t, "val x = 1")
	m.Program(l, root)
	if _, ok := elab.Find(m.Elab().Env(), nil, "x"); !ok {
		t.Error("x is not there")
	}
	if _, ok := elab.Find(other.Elab().Env(), nil, "x"); ok {
		t.Error("x is there in another one")
	}
	if got := len(m.Elab().Notes()); got != len(l) {
		t.Errorf("%d notes", got)
	}
}

// spans are the pieces of memory that a value points to: of texts and lists.
func spans(v reflect.Value, l *[][2]uintptr) {
	switch v.Kind() {
	case reflect.String:
		if v.Len() > 0 {
			from := uintptr(unsafe.Pointer(unsafe.StringData(v.String())))
			*l = append(*l, [2]uintptr{from, from + uintptr(v.Len())})
		}
	case reflect.Slice:
		if v.Cap() > 0 {
			from := v.Pointer()
			*l = append(*l, [2]uintptr{from, from + uintptr(v.Cap())*v.Type().Elem().Size()})
		}
		for i := range v.Len() {
			spans(v.Index(i), l)
		}
	case reflect.Struct:
		for i := range v.NumField() {
			spans(v.Field(i), l)
		}
	}
}

// share tells whether two values point to one piece of memory.
func share(a, b any) bool {
	var one, other [][2]uintptr
	spans(reflect.ValueOf(a), &one)
	spans(reflect.ValueOf(b), &other)
	for _, x := range one {
		for _, y := range other {
			if x[0] < y[1] && y[0] < x[1] {
				return true
			}
		}
	}
	return false
}

// own tells whether no two pieces of a value are one.
func own(a any) bool {
	var l [][2]uintptr
	spans(reflect.ValueOf(a), &l)
	slices.SortFunc(l, func(x, y [2]uintptr) int {
		if x[0] < y[0] {
			return -1
		}
		return 1
	})
	for i := range l {
		if i > 0 && l[i][0] < l[i-1][1] {
			return false
		}
	}
	return true
}

const rich = "signature G = sig type t datatype 'a d = D of 'a val x : t * int d exception E of t structure S : sig type 'a s val y : 'a s end end functor F (X : G) = struct datatype u = U of X.t val z = X.x structure T = X.S end structure A = struct type t = int datatype 'a d = D of 'a val x = (1, D 2) exception E of t structure S = struct type 'a s = 'a list val y = nil end end structure B : G = A structure C :> G = B structure P = F (A) structure Q = struct structure R = A val w = A.x end"

// Rule 4: what is told is new memory.
func TestOwnMemory(t *testing.T) {
	d := played(t, rich)
	answers := map[string]func() any{
		"Sigs":     func() any { return d.m.Sigs() },
		"Functors": func() any { return d.m.Functors() },
		"Env":      func() any { return d.m.Elab().Env() },
		"Copy":     func() any { return Copy(d.m.Sigs()[0].Env) },
	}
	for _, i := range append(d.nodes(api.SStruct), d.node(api.STrans), d.node(api.SOpaque), d.node(api.SApp)) {
		answers["Parts of "+strings.Repeat("'", i)] = func() any { return d.m.Parts(i) }
	}
	for name, tell := range answers {
		a := tell()
		if !own(a) {
			t.Errorf("%s: two lists share memory", name)
		}
		for other, again := range answers {
			if share(a, again()) {
				t.Errorf("%s shares memory with %s", name, other)
			}
		}
	}
}

// spoil changes all that a value points to.
func spoil(v reflect.Value) {
	switch v.Kind() {
	case reflect.Slice:
		for i := range v.Len() {
			spoil(v.Index(i))
		}
	case reflect.Struct:
		for i := range v.NumField() {
			spoil(v.Field(i))
		}
	case reflect.Int:
		v.SetInt(-7)
	case reflect.String:
		v.SetString("spoilt")
	}
}

// Rule 4: whoever changes what was told changes nothing here.
func TestAnswersAreNotKept(t *testing.T) {
	d := played(t, rich)
	typed := d.node(api.STrans)
	sigs, fcts, env, parts := d.m.Sigs(), d.m.Functors(), d.env(), d.m.Parts(typed)
	for _, a := range []any{d.m.Sigs(), d.m.Functors(), d.m.Parts(typed)} {
		spoil(reflect.ValueOf(a))
	}
	v := d.env()
	spoil(reflect.ValueOf(&v).Elem())
	if !reflect.DeepEqual(sigs, d.m.Sigs()) || !reflect.DeepEqual(fcts, d.m.Functors()) || !reflect.DeepEqual(env, d.env()) || !reflect.DeepEqual(parts, d.m.Parts(typed)) {
		t.Error("an answer that was changed is told again")
	}
	d.run("structure Z = F (C) structure Y : G = A val v = Y.x")
	d.is("v", "int * int d")
}

// Rule 4: what is handed in is neither changed nor kept.
func TestArgumentsAreNotKept(t *testing.T) {
	l, root := bareTree(t, rich)
	given := byNumber(l)
	for i := range given {
		given[i].Text, given[i].Path, given[i].Kids = strings.Clone(l[i].Text), slices.Grow(slices.Clone(l[i].Path), 4), slices.Grow(slices.Clone(l[i].Kids), 4)
	}
	m := New()
	if _, _, e := m.Program(given, root); e != api.OK {
		t.Fatal(e)
	}
	if want := byNumber(l); !reflect.DeepEqual(plain(given), plain(want)) {
		t.Error("the nodes were changed")
	}
	for i, n := range given {
		if slices.ContainsFunc(n.Path[len(n.Path):cap(n.Path)], func(s string) bool { return s != "" }) || slices.ContainsFunc(n.Kids[len(n.Kids):cap(n.Kids)], func(k int) bool { return k != 0 }) {
			t.Errorf("the node %d was changed behind its lists", i)
		}
	}
	for name, a := range map[string]any{"Sigs": m.Sigs(), "Functors": m.Functors(), "Env": m.Elab().Env(), "Notes": m.Elab().Notes()} {
		if share(a, given) {
			t.Errorf("%s shares memory with the nodes", name)
		}
	}
	sigs, fcts, env := m.Sigs(), m.Functors(), m.Elab().Env()
	for i := range given {
		spoil(reflect.ValueOf(given[i].Kids))
		spoil(reflect.ValueOf(given[i].Path))
		given[i] = api.Node{}
	}
	if !reflect.DeepEqual(sigs, m.Sigs()) || !reflect.DeepEqual(fcts, m.Functors()) || !reflect.DeepEqual(env, m.Elab().Env()) {
		t.Error("the nodes were kept")
	}
}

// plain are nodes whose empty lists are nil.
func plain(l []api.Node) []api.Node {
	l = slices.Clone(l)
	for i := range l {
		if len(l[i].Path) == 0 {
			l[i].Path = nil
		}
		if len(l[i].Kids) == 0 {
			l[i].Kids = nil
		}
	}
	return l
}

// P10.2: Copy is the same environment, in new memory.
func TestCopy(t *testing.T) {
	d := played(t, rich)
	hand := api.Env{
		Vals:  []api.Entry{{Name: "x", Is: 77, Scheme: api.Scheme{Vars: []int{-1, 5}, Type: -9}, At: api.Access{Id: 3, Path: []int{1, 2}}, Con: 4, Tag: 5, Count: 6, Arg: true}, {}},
		Types: []api.Typ{{Name: "t", Scheme: api.Scheme{Vars: []int{8}, Type: 9}, Cons: []api.Entry{{Name: "C", At: api.Access{Path: []int{1}}}}}},
		Strs:  []api.Str{{Name: "S", At: api.Access{Id: 1, Path: []int{4}}, Env: api.Env{Strs: []api.Str{{Name: "T"}}}}},
	}
	for name, v := range map[string]api.Env{"an elaborator's": d.env(), "a signature's": d.m.Sigs()[0].Env, "one by hand": hand, "an empty one": {}, "empty lists": {Vals: []api.Entry{}, Types: []api.Typ{}, Strs: []api.Str{}}} {
		got := Copy(v)
		if !reflect.DeepEqual(got, v) {
			t.Errorf("%s: %v; want %v", name, got, v)
		}
		if share(got, v) || !own(got) {
			t.Errorf("%s shares memory", name)
		}
	}
}

// An environment that is made by hand so that it is in itself has no end: then there is no copy, but the call ends.
func TestCopyWithoutEnd(t *testing.T) {
	one := make([]api.Str, 1)
	one[0] = api.Str{Name: "S", Env: api.Env{Strs: one}}
	two := make([]api.Str, 2)
	for i := range two {
		two[i] = api.Str{Env: api.Env{Strs: two, Vals: []api.Entry{{Name: "x"}}}}
	}
	for _, l := range [][]api.Str{one, two} {
		if got := Copy(api.Env{Strs: l}); len(got.Strs) != 0 {
			t.Error("a copy of what has no end")
		}
	}
	deep := api.Env{Vals: []api.Entry{{Name: "x"}}}
	for range 1 << 16 {
		deep = api.Env{Strs: []api.Str{{Name: "S", Env: deep}}}
	}
	got := Copy(deep)
	for range 1 << 16 {
		if len(got.Strs) != 1 {
			t.Fatal("a deep one is cut")
		}
		got = got.Strs[0].Env
	}
	if len(got.Vals) != 1 {
		t.Error("what is in the middle of a deep one")
	}
}

// Two checkers with the same calls answer the same.
func TestSameCalls(t *testing.T) {
	a, b := newDesk(t), newDesk(t)
	for _, d := range []*desk{a, b} {
		d.run(rich)
		d.play("structure Z = F (Nobody)")
		d.run("structure Z = F (C)")
	}
	if !reflect.DeepEqual(a.env(), b.env()) || !reflect.DeepEqual(a.m.Sigs(), b.m.Sigs()) || !reflect.DeepEqual(a.m.Functors(), b.m.Functors()) || !reflect.DeepEqual(a.m.Elab().Notes(), b.m.Elab().Notes()) {
		t.Error("two checkers differ")
	}
	for i := range a.l {
		if !reflect.DeepEqual(a.m.Parts(i), b.m.Parts(i)) {
			t.Errorf("the parts of %d differ", i)
		}
	}
}
