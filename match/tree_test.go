package match

import (
	"reflect"
	"slices"
	"testing"

	"kiln/api"
)

// walker goes over all ways of a decision tree, and holds them against the chapter.
type walker struct {
	t     testing.TB
	m     api.Match
	l     []api.Choice
	met   []bool
	ways  int
	tests int
}

// fact is what a way knows of a path: the constructor there, or -1: it was tested, and is another one.
type fact struct {
	path []int
	con  int
}

// holdTree holds a tree against P9.3.
func holdTree(t testing.TB, m api.Match, l []api.Choice, root int) *walker {
	t.Helper()
	w := &walker{t: t, m: m, l: l, met: make([]bool, len(l))}
	if root < 0 || root >= len(l) {
		t.Fatalf("root %d of %d", root, len(l))
	}
	w.node(root, nil)
	if i := slices.Index(w.met, false); i >= 0 {
		t.Errorf("node %d is not of the root's", i)
	}
	return w
}

func (w *walker) node(n int, way []fact) {
	c := w.l[n]
	w.met[n] = true
	switch c.Kind {
	case api.CFail:
		w.ways++
		w.only(c, api.Choice{Kind: api.CFail})
	case api.CLeaf:
		w.ways++
		w.only(c, api.Choice{Kind: c.Kind, Row: c.Row, Vars: c.Vars, Paths: c.Paths})
		if c.Row < 0 || c.Row >= len(w.m.Rows) || len(c.Vars) != len(c.Paths) {
			w.t.Fatalf("leaf %+v", c)
		}
		for _, p := range c.Paths {
			w.shape(p, way)
		}
	case api.CTest:
		w.tests++
		w.only(c, api.Choice{Kind: c.Kind, Path: c.Path, Keys: c.Keys, Next: c.Next, Else: c.Else})
		w.test(n, c, way)
	default:
		w.t.Fatalf("node %+v", c)
	}
}

// only asks that a node has nothing but what its kind names.
func (w *walker) only(c, want api.Choice) {
	if !reflect.DeepEqual(c, want) {
		w.t.Fatalf("node %+v: a field that its kind does not name", c)
	}
}

// shape is the shape at a path, below constructors that the way knows.
func (w *walker) shape(path []int, way []fact) int {
	s := w.m.Shape
	for i, place := range path {
		h := w.m.Shapes[s]
		switch h.Kind {
		case api.HRec:
			s = h.Args[place]
		case api.HData, api.HExn:
			k := slices.IndexFunc(way, func(f fact) bool { return slices.Equal(f.path, path[:i]) })
			if k < 0 || way[k].con < 0 || place != 0 || h.Args[way[k].con] < 0 {
				w.t.Fatalf("path %v: below what the way does not know", path)
			}
			s = h.Args[way[k].con]
		default:
			w.t.Fatalf("path %v leads nowhere", path)
		}
	}
	return s
}

func (w *walker) test(n int, c api.Choice, way []fact) {
	h := w.m.Shapes[w.shape(c.Path, way)]
	if slices.ContainsFunc(way, func(f fact) bool { return slices.Equal(f.path, c.Path) }) {
		w.t.Fatalf("path %v is tested twice", c.Path)
	}
	kinds := map[api.ShapeKind]api.ValKind{api.HInt: api.WInt, api.HStr: api.WStr, api.HData: api.WCon, api.HExn: api.WExn}
	if len(c.Keys) != len(c.Next) || len(c.Keys) == 0 {
		w.t.Fatalf("test %+v", c)
	}
	for i, key := range c.Keys {
		if key.Kind != kinds[h.Kind] || key.Args != nil || key.N < 0 || len(h.Args) > 0 && key.N >= len(h.Args) {
			w.t.Fatalf("key %+v of shape %+v", key, h)
		}
		if want := map[api.ValKind]api.Datum{api.WInt: wInt(key.Int), api.WStr: wStr(key.Text), api.WCon: wCon(key.N), api.WExn: wExn(key.N)}[key.Kind]; !reflect.DeepEqual(key, want) {
			w.t.Fatalf("key %+v: a field that its kind does not name", key)
		}
		for _, other := range c.Keys[:i] {
			if reflect.DeepEqual(key, other) {
				w.t.Fatalf("two keys %+v", key)
			}
		}
		w.next(n, c.Next[i], append(slices.Clip(way), fact{c.Path, key.N}))
	}
	if c.Else != -1 {
		w.next(n, c.Else, append(slices.Clip(way), fact{c.Path, -1}))
	} else if h.Kind != api.HData || len(c.Keys) != len(h.Args) {
		w.t.Fatalf("test %+v has no Else", c)
	}
}

func (w *walker) next(from, to int, way []fact) {
	if to < 0 || to >= from {
		w.t.Fatalf("from node %d to %d", from, to)
	}
	w.node(to, way)
}
