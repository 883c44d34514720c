package match

import (
	"math/rand/v2"
	"reflect"
	"slices"
	"testing"

	"kiln/api"
)

// maker makes matches by chance, or by what it is given.
type maker struct {
	pick  func(n int) int // a number below n
	rows  int             // how many rows there are at most
	depth int             // how deep patterns are at most
	tame  bool            // shapes are those of which patterns are seldom redundant, and so are these
	d     *desk
}

func (k *maker) chance(n int) bool { return k.pick(n) == 0 }

// match is a match, mostly one that holds.
func (k *maker) match() api.Match {
	k.d = newDesk()
	if tame := tameShapes(); k.tame {
		k.d.Shapes = tame[k.pick(len(tame))]
	} else {
		n := 1 + k.pick(5)
		for range n {
			k.d.Shapes = append(k.d.Shapes, k.shape(n))
		}
		k.d.Shape = k.pick(n)
	}
	have := map[int][]int{}
	for range k.pick(k.rows + 1) {
		k.d.Rows = append(k.d.Rows, k.pattern(k.d.Shape, 1+k.pick(k.depth), have))
	}
	if k.chance(4) {
		k.spoil()
	}
	return k.d.Match
}

// tameShapes are shapes of which patterns are seldom redundant.
func tameShapes() [][]api.Shape {
	truth := hData(-1, -1)
	return [][]api.Shape{
		{hRec(1, 1, 1, 1), truth},
		{hRec(1, 2, 1, 2), truth, hInt()},
		{hData(-1, 1), hRec(2, 0), truth},
		{hRec(1, 1), hData(-1, 2), hRec(1, 3, 1), hData(-1, -1, -1)},
		{hRec(1, 2, 3), hExn(-1, 3, 1), hStr(), hData(1, -1)},
		{hData(1, 2, -1), hRec(0, 0), hRec(0, 3), hInt()},
		{hRec(1, 1), hRec(2, 2), hData(-1, 3), hData(3, -1)},
		{hData(1), hRec(2, 3, 2), hData(-1, 0), hRec()},
	}
}

func (k *maker) shape(n int) api.Shape {
	args := func(most, low int) []int {
		var l []int
		for range k.pick(most + 1) {
			l = append(l, low+k.pick(n-low))
		}
		return l
	}
	switch k.pick(8) {
	case 0:
		return hInt()
	case 1:
		return hStr()
	case 2, 3:
		return hRec(args(3, 0)...)
	case 4:
		return hExn(args(2, -1)...)
	}
	return hData(append(args(2, -1), k.pick(n+1)-1)...)
}

// pattern is a pattern for a shape, perhaps one that was made already.
func (k *maker) pattern(shape, depth int, have map[int][]int) int {
	if l := have[shape]; len(l) > 0 && k.chance(6) {
		return l[k.pick(len(l))]
	}
	p := k.fresh(shape, depth, have)
	have[shape] = append(have[shape], p)
	return p
}

func (k *maker) fresh(shape, depth int, have map[int][]int) int {
	h := k.d.Shapes[shape]
	switch {
	case depth == 0 || !k.tame && k.chance(5) || k.tame && shape != 0 && k.chance(3):
		return k.any()
	case !k.tame && k.chance(7):
		return k.d.bind(k.pick(9) - 2)
	case k.chance(8):
		return k.d.bind(k.pick(9)-2, k.pattern(shape, depth, have))
	}
	switch h.Kind {
	case api.HInt:
		return k.d.int(int64(k.pick(3)))
	case api.HStr:
		return k.d.str([]string{"", "0", "a"}[k.pick(3)])
	case api.HRec:
		var args []int
		for _, a := range h.Args {
			args = append(args, k.pattern(a, depth-1, have))
		}
		return k.d.rec(args...)
	}
	if len(h.Args) == 0 {
		return k.any()
	}
	n := k.pick(len(h.Args))
	var args []int
	if h.Args[n] != -1 {
		args = []int{k.pattern(h.Args[n], depth-1, have)}
	}
	if h.Kind == api.HExn {
		return k.d.exn(n, args...)
	}
	return k.d.con(n, args...)
}

// any is a pattern for all values, perhaps with Args, which say nothing of these.
func (k *maker) any() int {
	var args []int
	for n := len(k.d.Pats); n > 0 && len(args) < 3 && k.chance(5); {
		args = append(args, k.pick(n))
	}
	return k.d.any(args...)
}

// spoil turns a number somewhere.
func (k *maker) spoil() {
	odd := func() int { return k.pick(9) - 3 }
	m := &k.d.Match
	for range 1 + k.pick(2) {
		switch k.pick(6) {
		case 0:
			m.Shape = odd()
		case 1:
			h := &m.Shapes[k.pick(len(m.Shapes))]
			if len(h.Args) > 0 && k.chance(2) {
				h.Args[k.pick(len(h.Args))] = odd()
			} else {
				h.Kind = api.ShapeKind(k.pick(8) - 1)
			}
		case 2:
			m.Rows = append(m.Rows, odd()*3)
		default:
			if len(m.Pats) == 0 {
				continue
			}
			p := &m.Pats[k.pick(len(m.Pats))]
			switch {
			case len(p.Args) > 0 && k.chance(2):
				p.Args[k.pick(len(p.Args))] = k.pick(len(m.Pats)+2) - 1
			case k.chance(3):
				p.Args = append(p.Args, k.pick(len(m.Pats)))
			case k.chance(2):
				p.N = odd()
			default:
				p.Kind = api.PatKind(k.pick(10) - 1)
			}
		}
	}
}

// value is a value, mostly one of the shape.
func (k *maker) value(shape, depth int) api.Datum {
	m := k.d.Match
	if depth == 0 || shape < 0 || shape >= len(m.Shapes) || k.chance(40) {
		return api.Datum{Kind: api.ValKind(k.pick(7)), N: k.pick(4) - 1, Int: int64(k.pick(3)), Args: make([]api.Datum, k.pick(2))}
	}
	h := m.Shapes[shape]
	v := api.Datum{N: k.pick(3), Int: int64(k.pick(3)), Text: []string{"", "0", "a"}[k.pick(3)]}
	switch h.Kind {
	case api.HInt:
		v.Kind = api.WInt
	case api.HStr:
		v.Kind = api.WStr
	case api.HRec:
		v.Kind = api.WRec
		for _, a := range h.Args {
			v.Args = append(v.Args, k.value(a, depth-1))
		}
	case api.HData, api.HExn:
		v.Kind = api.WCon
		n := len(h.Args)
		if h.Kind == api.HExn {
			v.Kind = api.WExn
			n += 2
		}
		if n == 0 {
			return v
		}
		if v.N = k.pick(n); v.N < len(h.Args) && h.Args[v.N] != -1 {
			v.Args = []api.Datum{k.value(h.Args[v.N], depth-1)}
		}
	}
	return v
}

// tally counts what was met.
type tally struct {
	errnos             map[api.Errno]int
	redundant, missing int
	full, fit, trees   int
}

// hold makes a match and holds all answers of it against the second reading.
func (k *maker) hold(t testing.TB, n *tally) {
	t.Helper()
	m := k.match()
	r := reading{m}
	want := r.check()
	if got := Check(m); got != want {
		t.Fatalf("Check(%+v) = %v, want %v", m, got, want)
	}
	n.errnos[want]++
	var values []api.Datum
	for range 6 {
		values = append(values, k.value(m.Shape, 6))
	}
	l, root, e := Compile(m)
	rows, e1 := Redundant(m)
	v, missing, e2 := Missing(m)
	if e != want || e1 != want || e2 != want {
		t.Fatalf("%+v: Compile: %v, Redundant: %v, Missing: %v; want %v", m, e, e1, e2, want)
	}
	if want != api.OK {
		if l != nil || root != 0 || rows != nil || missing || !reflect.DeepEqual(v, api.Datum{}) {
			t.Fatalf("%+v: an answer beside an error", m)
		}
		values = append(values, api.Datum{})
	} else {
		n.trees = max(n.trees, len(l))
		holdTree(t, m, l, root)
		values = append(values, k.cover(t, r, n, rows, v, missing)...)
	}
	for _, v := range values {
		holdValue(t, r, l, root, v, n)
	}
}

// cover holds what is redundant and missing against all samples, and tells these.
func (k *maker) cover(t testing.TB, r reading, n *tally, rows []int, v api.Datum, missing bool) []api.Datum {
	t.Helper()
	wantRows, wantMissing, ok, all := r.coverage()
	if ok {
		n.full++
		if !slices.Equal(rows, wantRows) || missing != wantMissing {
			t.Fatalf("%+v: Redundant %v, Missing %v; want %v, %v", r.Match, rows, missing, wantRows, wantMissing)
		}
	}
	n.redundant += len(rows)
	if !missing {
		if !reflect.DeepEqual(v, api.Datum{}) {
			t.Fatalf("%+v: Missing %s beside false", r.Match, show(v))
		}
		return all
	}
	n.missing++
	if _, _, found := r.first(v); found || !r.is(v, r.Shape) {
		t.Fatalf("%+v: Missing %s", r.Match, show(v))
	}
	return append(all, v)
}

// holdValue holds the answers of a value against the second reading.
func holdValue(t testing.TB, r reading, l []api.Choice, root int, v api.Datum, n *tally) {
	t.Helper()
	fits := r.fits(v)
	if got := Fits(r.Match, v); got != fits {
		t.Fatalf("Fits(%+v, %s) = %v", r.Match, show(v), got)
	}
	var row int
	var binds []api.Bind
	var found bool
	if fits {
		n.fit++
		row, binds, found = r.first(v)
	}
	for name, f := range map[string]func() (int, []api.Bind, bool){
		"First": func() (int, []api.Bind, bool) { return First(r.Match, v) },
		"Run":   func() (int, []api.Bind, bool) { return Run(l, root, v) },
	} {
		i, b, ok := f()
		if name == "Run" && !fits {
			continue
		}
		if i != row || ok != found || len(b) != len(binds) || len(b) > 0 && !reflect.DeepEqual(b, binds) {
			t.Fatalf("%s(%+v, %s) = %d, %s, %v; want %d, %s, %v", name, r.Match, show(v), i, showBinds(b), ok, row, showBinds(binds), found)
		}
	}
}

func TestRandom(t *testing.T) {
	for _, c := range []struct {
		times, rows, depth int
		tame               bool
	}{{12000, 5, 4, false}, {3000, 12, 6, false}, {4000, 6, 5, true}, {2000, 15, 6, true}, {300, 40, 8, true}} {
		n := tally{errnos: map[api.Errno]int{}}
		for seed := range c.times {
			k := &maker{pick: rand.New(rand.NewPCG(uint64(seed), 9)).IntN, rows: c.rows, depth: c.depth, tame: c.tame}
			k.hold(t, &n)
		}
		t.Logf("%d rows: %+v", c.rows, n)
		if n.errnos[api.OK] < c.times/3 || n.errnos[api.ErrShapes] == 0 || n.errnos[api.ErrPattern] == 0 || n.full < n.errnos[api.OK]/2 || n.missing < c.times/20 || n.redundant < c.times/3 {
			t.Errorf("%d rows: too much of one kind: %+v", c.rows, n)
		}
	}
}

func FuzzMatches(f *testing.F) {
	for seed := range uint64(20) {
		var b [200]byte
		r := rand.New(rand.NewPCG(seed, 3))
		for i := range b {
			b[i] = byte(r.Uint32())
		}
		f.Add(b[:])
	}
	f.Fuzz(func(t *testing.T, b []byte) {
		pick := func(n int) int {
			if len(b) == 0 {
				return 0
			}
			x := int(b[0])
			b = b[1:]
			return x % n
		}
		k := &maker{pick: pick, rows: 8, depth: 5}
		k.hold(t, &tally{errnos: map[api.Errno]int{}})
	})
}
