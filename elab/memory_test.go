package elab

import (
	"reflect"
	"strings"
	"testing"
	"unsafe"

	"kiln/api"
)

// Rule 3: all methods of an elaborator that is nil, or that New did not make.
func TestNoElaborator(t *testing.T) {
	good := played(t, "val x = 1")
	copied := *good.e
	for name, e := range map[string]*Elab{"nil": nil, "zero": {}, "a copy": &copied} {
		if e.Book() != nil || !reflect.DeepEqual(e.Env(), api.Env{}) || e.Fresh() != 0 || e.Notes() != nil {
			t.Errorf("%s tells something", name)
		}
		errnos := map[string]api.Errno{"Set": e.Set(api.Env{}), "Begin": e.Begin(nil, 9), "Begin a tree": e.Begin(good.l, good.root), "Note": e.Note(-1, api.Note{})}
		line, column, errno := e.Dec(-1)
		errnos["Dec"] = errno
		ty, l, c, errno := e.Ty(-1, nil, nil)
		errnos["Ty"] = errno
		for call, got := range errnos {
			if got != api.ErrNil {
				t.Errorf("%s: %s: %v", name, call, got)
			}
		}
		if line != 0 || column != 0 || ty != 0 || l != 0 || c != 0 {
			t.Errorf("%s: a place", name)
		}
	}
	if !reflect.DeepEqual(copied.nodes, good.e.nodes) || copied.next != good.e.next {
		t.Error("a copy was changed")
	}
	good.is("x", "int")
	if got := good.e.Fresh(); got != 101 {
		t.Errorf("a copy's calls were this one's: Fresh: %d", got)
	}
}

// spans are the pieces of memory that a value points to: of texts and lists.
func spans(v reflect.Value, l *[][2]uintptr) {
	switch v.Kind() {
	case reflect.String:
		if v.Len() > 0 {
			from := uintptr(unsafe.Pointer(unsafe.StringData(v.String())))
			*l = append(*l, [2]uintptr{from, from + uintptr(v.Len())})
		}
	case reflect.Slice:
		if v.Cap() > 0 {
			from := v.Pointer()
			*l = append(*l, [2]uintptr{from, from + uintptr(v.Cap())*v.Type().Elem().Size()})
		}
		for i := range v.Len() {
			spans(v.Index(i), l)
		}
	case reflect.Struct:
		for i := range v.NumField() {
			spans(v.Field(i), l)
		}
	}
}

// share tells whether two values point to one piece of memory.
func share(a, b any) bool {
	var one, other [][2]uintptr
	spans(reflect.ValueOf(a), &one)
	spans(reflect.ValueOf(b), &other)
	for _, x := range one {
		for _, y := range other {
			if x[0] < y[1] && y[0] < x[1] {
				return true
			}
		}
	}
	return false
}

// Rule 4: an answer is new memory.
func TestNewMemory(t *testing.T) {
	d := newDesk(t)
	text := strings.Clone("datatype 'a tt = AA of 'a | BB type uu = int exception EE val ff = fn {aa, ...} : {aa : int, bb : int} => aa + aa val gg = (AA, BB, EE)")
	d.run(text)
	v := sample(d)
	all := d.e.Env()
	all.Strs = append(all.Strs, v.Strs...)
	d.e.Set(all)
	first, second := d.e.Env(), d.e.Env()
	if !reflect.DeepEqual(first, all) || !reflect.DeepEqual(first, second) {
		t.Fatal("not what was set")
	}
	if share(first, all) || share(first, second) {
		t.Error("Env, Set: shared memory")
	}
	if notes, again := d.e.Notes(), d.e.Notes(); !reflect.DeepEqual(notes, again) || share(notes, again) {
		t.Error("Notes: shared memory")
	}
	values, structures := Slots(all)
	if share(values, all) || share(structures, all) || share(values, structures) {
		t.Error("Slots: shared memory")
	}
	for _, name := range []string{"ff", "AA", "S.c", "S.b", "S.I.D.z"} {
		path, last := long(name)
		if e, ok := Find(all, path, last); !ok || share(e, all) || share(e, path) || share(e, last) {
			t.Errorf("Find of %s: %v, or shared memory", name, ok)
		}
	}
	for _, name := range []string{"tt", "S.u", "S.I.D.t"} {
		path, last := long(name)
		if e, ok := FindType(all, path, last); !ok || share(e, all) || share(e, path) || share(e, last) {
			t.Errorf("FindType of %s: %v, or shared memory", name, ok)
		}
	}
	for _, name := range []string{"S", "S.I", "S.I.D"} {
		path := strings.Split(name, ".")
		if e, ok := FindStr(all, path); !ok || share(e, all) || share(e, path) {
			t.Errorf("FindStr of %s: %v, or shared memory", name, ok)
		}
	}
	var of [][2]uintptr
	spans(reflect.ValueOf(first), &of)
	for i, x := range of {
		for _, y := range of[i+1:] {
			if x[0] < y[1] && y[0] < x[1] && !(x[0] <= y[0] && y[1] <= x[1]) {
				t.Fatal("two lists of one answer share memory")
			}
		}
	}
}

// Rule 4: what is told may be changed, and the elaborator stays as it is; likewise what was handed in.
func TestKeptApart(t *testing.T) {
	d := played(t, "datatype 'a t = A of 'a | B exception E val f = fn {a, ...} : {a : int, b : int} => a val g = (A, E)")
	spoil := func(v *api.Env) {
		for i := range v.Vals {
			if len(v.Vals[i].Scheme.Vars) > 0 {
				v.Vals[i].Scheme.Vars[0] = -1
			}
			if len(v.Vals[i].At.Path) > 0 {
				v.Vals[i].At.Path[0] = -1
			}
			v.Vals[i].Name = "spoilt"
		}
		for i := range v.Types {
			for k := range v.Types[i].Cons {
				v.Types[i].Cons[k].Name = "spoilt"
			}
			v.Types[i].Name = "spoilt"
		}
		for i := range v.Strs {
			for k := range v.Strs[i].Env.Vals {
				v.Strs[i].Env.Vals[k].Name = "spoilt"
			}
			v.Strs[i].Name = "spoilt"
		}
	}
	want, told := d.e.Env(), d.e.Env()
	spoil(&told)
	if !reflect.DeepEqual(d.e.Env(), want) {
		t.Error("Env: what is told is the elaborator's own")
	}
	given := d.e.Env()
	d.e.Set(given)
	spoil(&given)
	if !reflect.DeepEqual(d.e.Env(), want) {
		t.Error("Set: what was handed in is kept")
	}
	notes := d.e.Notes()
	again := d.e.Notes()
	for i := range notes {
		if len(notes[i].Labels) > 0 {
			notes[i].Labels[0] = "spoilt"
		}
		notes[i].Is = 9
	}
	if !reflect.DeepEqual(d.e.Notes(), again) {
		t.Error("Notes: what is told is the elaborator's own")
	}
	n := api.Note{At: api.Access{Path: []int{1}}, Labels: []string{"a"}}
	d.e.Note(0, n)
	n.At.Path[0], n.Labels[0] = 2, "b"
	if got := d.e.Notes()[0]; got.At.Path[0] != 1 || got.Labels[0] != "a" {
		t.Errorf("Note: what was handed in is kept: %v", got)
	}
	l, root := bareTree(t, "val x = {a = Prim.size, b = S.y}")
	before := cloneNodes(l)
	d.e.Begin(l, root)
	if share(l, d.e.nodes) {
		t.Error("Begin: shared memory")
	}
	if !reflect.DeepEqual(l, before) {
		t.Error("Begin: what was handed in is changed")
	}
	dec := l[root].Kids[0]
	for i := range l {
		l[i].Kind, l[i].Text = api.NString, "spoilt"
		clear(l[i].Kids)
		clear(l[i].Path)
	}
	if _, column, e := d.e.Dec(dec); e != api.ErrUnbound || column != 29 {
		t.Errorf("Begin: what was handed in is kept: %v at %d", e, column)
	}
}
