package match

import (
	"reflect"
	"slices"
	"strings"
	"testing"
	"unsafe"

	"kiln/api"
)

// spans are the pieces of memory that a value points to: of texts and lists.
func spans(v reflect.Value, l *[][2]uintptr) {
	switch v.Kind() {
	case reflect.String:
		if v.Len() > 0 {
			from := uintptr(unsafe.Pointer(unsafe.StringData(v.String())))
			*l = append(*l, [2]uintptr{from, from + uintptr(v.Len())})
		}
	case reflect.Slice:
		if v.Cap() > 0 {
			from := v.Pointer()
			*l = append(*l, [2]uintptr{from, from + uintptr(v.Cap())*v.Type().Elem().Size()})
		}
		for i := range v.Len() {
			spans(v.Index(i), l)
		}
	case reflect.Struct:
		for i := range v.NumField() {
			spans(v.Field(i), l)
		}
	}
}

// shared tells whether two of these values, or two lists or texts of one of them that is an answer, share memory.
func shared(answers []any, others ...any) bool {
	var mine, all [][2]uintptr
	for _, a := range answers {
		spans(reflect.ValueOf(a), &mine)
	}
	for _, a := range others {
		spans(reflect.ValueOf(a), &all)
	}
	for i, x := range mine {
		for _, y := range slices.Concat(mine[:i], all) {
			if x[0] < y[1] && y[0] < x[1] {
				return true
			}
		}
	}
	return false
}

// copied is a match in new memory.
func copied(m api.Match) api.Match {
	n := api.Match{Shape: m.Shape, Rows: slices.Clone(m.Rows)}
	for _, h := range m.Shapes {
		h.Args = slices.Clone(h.Args)
		n.Shapes = append(n.Shapes, h)
	}
	for _, p := range m.Pats {
		p.Args = slices.Clone(p.Args)
		n.Pats = append(n.Pats, p)
	}
	return n
}

// Rule 4: what is handed in is not changed, and what is told is one's own.
func TestMemory(t *testing.T) {
	d := newDesk(hRec(1, 3, 1), hData(-1, 2), hRec(3, 1), hStr())
	text := strings.Repeat("text", 5)
	x := d.bind(1)
	both := d.con(1, d.rec(d.bind(2, d.str(text)), x))
	d.rows(
		d.rec(d.bind(3, both), d.bind(4, d.str(text)), d.bind(5, both)),
		d.rec(d.con(0), d.str(text), x),
		d.rec(d.con(1, d.any()), d.str(text+"2"), x),
		d.rec(both, x, x))
	part := wCon(1, wRec(wStr(text), wCon(0)))
	v := wRec(part, wStr(text), part)
	m, w := copied(d.Match), cloned(v)
	same := func(name string) {
		t.Helper()
		if !reflect.DeepEqual(m, d.Match) || !reflect.DeepEqual(w, v) {
			t.Fatalf("%s: an argument was changed", name)
		}
	}
	Check(m)
	same("Check")
	Fits(m, w)
	same("Fits")
	_, b, ok := First(m, w)
	same("First")
	if !ok || len(b) != 7 {
		t.Fatalf("First: %s, %v", showBinds(b), ok)
	}
	redundant, e := Redundant(m)
	same("Redundant")
	missing, is, e1 := Missing(m)
	same("Missing")
	if e != api.OK || e1 != api.OK || !is {
		t.Fatalf("Redundant: %v, Missing: %v, %v", e, is, e1)
	}
	l, root, _ := Compile(m)
	same("Compile")
	tree := slices.Clone(l)
	for i := range tree {
		tree[i].Next = slices.Clone(tree[i].Next)
	}
	_, c, _ := Run(l, root, w)
	same("Run")
	if !reflect.DeepEqual(tree, l) || !reflect.DeepEqual(b, c) {
		t.Errorf("Run: %s, or the tree was changed", showBinds(c))
	}
	if shared([]any{b, redundant, missing, l, c}, m, w) {
		t.Error("shared memory")
	}
}

// Rule 4: answers of the same call twice are the same, and each one's own.
func TestTwice(t *testing.T) {
	d := listDesk()
	m := d.rows(d.cons(d.bind(1), d.con(0)), d.bind(2, d.cons(d.int(3), d.bind(3))), d.cons(d.any(), d.cons(d.any(), d.any())))
	l, root, _ := Compile(m)
	k, top, _ := Compile(m)
	v, _, _ := Missing(m)
	w, _, _ := Missing(m)
	if !reflect.DeepEqual(l, k) || root != top || !reflect.DeepEqual(v, w) {
		t.Error("not the same")
	}
	if shared([]any{l, k, v, w}, m) {
		t.Error("shared memory")
	}
}

// Rule 4: nil and empty lists are the same.
func TestEmptyLists(t *testing.T) {
	d := newDesk(hRec(1, 2, 3), hRec(), hData(-1), hExn(-1))
	m := d.rows(d.rec(d.rec(), d.con(0), d.exn(0)), d.any())
	n := copied(m)
	for i := range n.Shapes {
		n.Shapes[i].Args = append([]int{}, n.Shapes[i].Args...)
	}
	for i := range n.Pats {
		n.Pats[i].Args = append([]int{}, n.Pats[i].Args...)
	}
	l, root, e := Compile(m)
	k, top, e1 := Compile(n)
	if !reflect.DeepEqual(l, k) || root != top || e != e1 {
		t.Errorf("Compile: %v, %v", e, e1)
	}
	v := api.Datum{Kind: api.WRec, Args: []api.Datum{{Kind: api.WRec, Args: []api.Datum{}}, {Kind: api.WCon, Args: []api.Datum{}}, {Kind: api.WExn, Args: []api.Datum{}}}}
	if i, _, ok := First(n, v); i != 0 || !ok {
		t.Errorf("First: %d, %v", i, ok)
	}
	if i, _, ok := Run(k, top, v); i != 0 || !ok {
		t.Errorf("Run: %d, %v", i, ok)
	}
	for _, rows := range [][]int{nil, {}} {
		m.Rows = rows
		if l, root, e := Compile(m); len(l) != 1 || root != 0 || e != api.OK {
			t.Errorf("no rows: %v", e)
		}
	}
}
