package types

import (
	"maps"
	"math/rand/v2"
	"slices"
	"testing"

	"kiln/api"
)

// hider makes types without variables, and hides parts of them behind variables.
type hider struct {
	t      *testing.T
	r      *rand.Rand
	b      *Book
	w      *world
	hidden map[string][]int // by their texts: the variables that stand for types
}

func newHider(t *testing.T, seed uint64) *hider {
	s := newScript(t, seed)
	return &hider{t, s.r, s.books[0], s.w, map[string][]int{}}
}

func (h *hider) must(n int, e api.Errno) int {
	h.t.Helper()
	if e != api.OK {
		h.t.Fatalf("error %d", e)
	}
	return n
}

// grown is a type without variables but rigid ones.
func (h *hider) grown(deep int) *thing {
	if deep == 0 || h.r.IntN(5) == 0 {
		if h.r.IntN(6) == 0 {
			return h.w.add(thing{rigid: true, name: []string{"'r", "''r"}[h.r.IntN(2)]})
		}
		return &thing{kind: api.YCon, con: []int{0, 1, 2, 3, 4, 10}[h.r.IntN(6)]}
	}
	switch h.r.IntN(4) {
	case 0:
		return &thing{kind: api.YArrow, args: []*thing{h.grown(deep - 1), h.grown(deep - 1)}}
	case 1:
		x := &thing{kind: api.YCon, con: []int{5, 6, 7, 8, 9}[h.r.IntN(5)]}
		for range h.w.cons[x.con].arity {
			x.args = append(x.args, h.grown(deep-1))
		}
		return x
	}
	x := &thing{kind: api.YRec, fields: map[string]*thing{}}
	for _, l := range []string{"1", "2", "3", "10", "a", "b"} {
		if h.r.IntN(2) == 0 {
			x.fields[l] = h.grown(deep - 1)
		}
	}
	return x
}

// shown is a type with parts of it hidden, in one of so many places.
func (h *hider) shown(x *thing, one int, rigid map[*thing]int) int {
	hide := one > 0 && h.r.IntN(one) == 0
	var l []int
	switch {
	case hide && x.kind == api.YRec && h.r.IntN(2) == 0:
		var labels []string
		for _, s := range x.labels() {
			if h.r.IntN(2) == 0 {
				labels = append(labels, s)
				l = append(l, h.shown(x.fields[s], one, rigid))
			}
		}
		return h.must(h.b.Open(h.r.IntN(4), labels, l...))
	case hide:
		return h.variable(x)
	case x.kind == api.YVar:
		if _, ok := rigid[x]; !ok {
			rigid[x] = h.must(h.b.Rigid(0, x.name))
		}
		return rigid[x]
	}
	for _, p := range x.parts() {
		l = append(l, h.shown(p, one, rigid))
	}
	switch x.kind {
	case api.YArrow:
		return h.must(h.b.Arrow(l[0], l[1]))
	case api.YCon:
		return h.must(h.b.Apply(x.con, l...))
	}
	return h.must(h.b.Record(x.labels(), l...))
}

// variable is one that may stand for a type: a new one, or one that does already.
func (h *hider) variable(x *thing) int {
	text := h.w.text(x)
	if x.kind == api.YVar || slices.ContainsFunc(x.free(), func(*thing) bool { return true }) {
		text = "" // rigid ones may have the same names
	}
	if l := h.hidden[text]; text != "" && len(l) > 0 && h.r.IntN(2) == 0 {
		return l[h.r.IntN(len(l))]
	}
	class := api.Any
	if x.kind == api.YCon && x.con <= api.ConString {
		class = []api.Class{api.Any, api.Num, api.Text}[h.r.IntN(3)]
		if class == api.Num && x.con > api.ConReal {
			class = api.Text
		}
	}
	equal := h.w.equals(x, map[*thing]bool{}) && h.r.IntN(2) == 0
	v := h.must(h.b.Var(h.r.IntN(4), equal, class))
	h.hidden[text] = append(h.hidden[text], v)
	return v
}

// hasInstance tells whether a type is one when its variables stand for some types.
func (h *hider) hasInstance(n int, x *thing, stand map[int]*thing, rigid map[*thing]int) bool {
	told, _ := h.b.Look(n)
	parts := map[string]*thing{}
	maps.Copy(parts, x.fields)
	for i, a := range x.args {
		parts[string(rune('0'+i))] = a
	}
	if told.Kind != api.YVar && (told.Kind != x.kind || told.Con != x.con || len(told.Args) != len(parts)) {
		return false
	}
	if told.Kind == api.YVar {
		v := h.b.now(n)
		if h.b.cells[v].rigid {
			return h.b.now(rigid[x]) == v && x.rigid
		}
		if stand[v] == nil {
			stand[v] = x
		}
		if h.w.text(stand[v]) != h.w.text(x) || told.Equal && !h.w.equals(x, map[*thing]bool{}) || told.Open && x.kind != api.YRec {
			return false
		}
		if told.Class != api.Any && (x.kind != api.YCon || x.con > api.ConString || told.Class == api.Num && x.con > api.ConReal) {
			return false
		}
	}
	for i, a := range told.Args {
		label := string(rune('0' + i))
		if len(told.Labels) > 0 {
			label = told.Labels[i]
		}
		if parts[label] == nil || !h.hasInstance(a, parts[label], stand, rigid) {
			return false
		}
	}
	return true
}

// P7.6: two types that hide parts of one are unified, and it is an instance of what both are then.
func TestMostGeneral(t *testing.T) {
	open := 0
	for seed := range uint64(20000) {
		h := newHider(t, seed)
		x := h.grown(1 + h.r.IntN(4))
		if tooLarge(x) {
			continue
		}
		rigid := map[*thing]int{}
		one, two := h.shown(x, 2+h.r.IntN(5), rigid), h.shown(x, 2+h.r.IntN(5), rigid)
		if e := h.b.Unify(one, two); e != api.OK {
			t.Fatalf("seed %d: Unify: %d of types that hide %s", seed, e, h.w.text(x))
		}
		s, e := h.b.Text(one)
		if u, f := h.b.Text(two); s != u || e != api.OK || f != api.OK {
			t.Fatalf("seed %d: both are not the same: %s, %s", seed, s, u)
		}
		if !h.hasInstance(one, x, map[int]*thing{}, rigid) || !h.hasInstance(two, x, map[int]*thing{}, rigid) {
			t.Fatalf("seed %d: %s is no instance of %s", seed, h.w.text(x), s)
		}
		if len(h.b.Free(one)) > len(rigid) {
			open++
		}
	}
	if open < 3000 {
		t.Errorf("variables were left %d times", open)
	}
}

// P7.8: instances of a scheme cover each other, and it covers each of them.
func TestInstancesCover(t *testing.T) {
	good := 0
	for seed := range uint64(800) {
		s := newScript(t, seed)
		for range 40 {
			s.step()
		}
		for k, b := range s.books {
			for _, x := range s.schemes {
				if !x.p.good() || x.p.tooLarge() {
					continue
				}
				good++
				var l []api.Scheme
				for level := range 3 {
					n, _, e := b.Instance(x.s[k], level)
					if e != api.OK {
						t.Fatalf("seed %d: Instance: %d", seed, e)
					}
					l = append(l, api.Scheme{Type: n})
				}
				for i, y := range l {
					if !b.Covers(x.s[k], y) {
						t.Fatalf("seed %d: a scheme does not cover its instance", seed)
					}
					for _, z := range l[:i] {
						if !b.Covers(y, z) || !b.Covers(z, y) {
							t.Fatalf("seed %d: instances do not cover each other", seed)
						}
					}
				}
			}
		}
	}
	if good < 2000 {
		t.Errorf("%d schemes", good)
	}
}

// P7.8: with types that fit in the place of variables, too; and of schemes of instances.
func TestSchemesCover(t *testing.T) {
	for seed := range uint64(3000) {
		h := newHider(t, seed)
		x := h.grown(3)
		n := h.shown(x, 3, map[*thing]int{})
		s := api.Scheme{Type: n}
		var args []int
		for _, v := range h.b.Free(n) {
			if h.r.IntN(4) == 0 {
				continue
			}
			y := h.grown(2)
			if h.b.admits(h.b.cells[v]) == api.Always && !h.w.equals(y, map[*thing]bool{}) {
				y = &thing{kind: api.YCon}
			}
			s.Vars = append(s.Vars, v)
			args = append(args, h.shown(y, 0, map[*thing]int{}))
		}
		put, e := h.b.Put(s, args...)
		if e == api.ErrLong {
			continue
		}
		if e != api.OK || !h.b.Covers(s, api.Scheme{Type: put}) {
			t.Fatalf("seed %d: %d, or a scheme does not cover its instance", seed, e)
		}
		one, vars, _ := h.b.Instance(s, 5)
		two, others, _ := h.b.Instance(s, 6)
		for _, c := range [][2]api.Scheme{{s, {Vars: vars, Type: one}}, {{Vars: vars, Type: one}, s}, {{Vars: vars, Type: one}, {Vars: others, Type: two}}, {{Vars: others, Type: two}, {Type: put}}, {s, s}} {
			if !h.b.Covers(c[0], c[1]) {
				t.Fatalf("seed %d: schemes of instances do not cover", seed)
			}
		}
	}
}
