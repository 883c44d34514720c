package match

import (
	"math/rand/v2"
	"slices"
	"strconv"
	"testing"

	"kiln/api"
)

// covers asks which rows are redundant, and whether a value is missing; which is told.
func covers(t *testing.T, name string, m api.Match, redundant []int, missing bool) api.Datum {
	t.Helper()
	l, e := Redundant(m)
	if e != api.OK || !slices.Equal(l, redundant) {
		t.Errorf("%s: Redundant: %d: %v .., %v; want %d: %v ..", name, len(l), l[:min(9, len(l))], e, len(redundant), redundant[:min(9, len(redundant))])
	}
	v, is, e := Missing(m)
	if e != api.OK || is != missing {
		t.Errorf("%s: Missing: %v, %v; want %v", name, is, e, missing)
	}
	if !is && (v.Kind != 0 || v.Args != nil) {
		t.Errorf("%s: Missing: %s beside false", name, show(v))
	}
	if is {
		if _, _, ok := First(m, v); ok || !Fits(m, v) {
			t.Errorf("%s: Missing: %s", name, show(v))
		}
	}
	return v
}

// P9.2: lists.
func TestLists(t *testing.T) {
	d := listDesk()
	x, any := d.bind(1), d.any()
	none, some, one := d.con(0), d.cons(x, any), d.cons(d.int(1), d.con(0))
	two := d.cons(any, d.cons(any, any))
	for name, c := range map[string]struct {
		rows, redundant []int
		missing         bool
	}{
		"no rows":                  {nil, nil, true},
		"any":                      {[]int{any}, nil, false},
		"a variable":               {[]int{x}, nil, false},
		"any, any":                 {[]int{any, any, x, none}, []int{1, 2, 3}, false},
		"none":                     {[]int{none}, nil, true},
		"some":                     {[]int{some}, nil, true},
		"none, some":               {[]int{none, some}, nil, false},
		"some, none, any":          {[]int{some, none, any}, []int{2}, false},
		"none, some, one":          {[]int{none, some, one}, []int{2}, false},
		"one, none, some":          {[]int{one, none, some}, nil, false},
		"none, one":                {[]int{none, one}, nil, true},
		"none, [x]":                {[]int{none, d.cons(x, none)}, nil, true},
		"none, [x], two":           {[]int{none, d.cons(x, none), two}, nil, false},
		"two, some, none":          {[]int{two, some, none, two}, []int{3}, false},
		"none, two":                {[]int{none, two}, nil, true},
		"one, one":                 {[]int{one, one, d.cons(d.int(1), d.bind(2, d.con(0)))}, []int{1, 2}, true},
		"rows that others cover":   {[]int{none, two, d.cons(any, none), some}, []int{3}, false},
		"some that others leave":   {[]int{two, some, any}, nil, false},
		"both sides of a constant": {[]int{one, d.cons(d.int(1), two), d.cons(d.int(1), some), d.cons(d.int(1), any)}, []int{3}, true},
	} {
		covers(t, name, d.with(c.rows...), c.redundant, c.missing)
	}
}

// P9.2: values of all kinds.
func TestKinds(t *testing.T) {
	d := newDesk(hInt())
	one, two := d.int(1), d.int(2)
	covers(t, "ints", d.with(one, two, one), []int{2}, true)
	covers(t, "ints and any", d.with(one, two, d.any(), d.int(3), d.bind(1)), []int{3, 4}, false)
	covers(t, "zero", d.with(d.int(0), d.int(1), d.int(-1), d.int(2)), nil, true)
	d = newDesk(hStr())
	covers(t, "strings", d.with(d.str(""), d.str("0"), d.str("1"), d.str(""), d.str("00")), []int{3}, true)
	d = newDesk(hRec())
	covers(t, "an empty record", d.with(d.rec()), nil, false)
	covers(t, "empty records", d.with(d.rec(), d.rec(), d.any()), []int{1, 2}, false)
	covers(t, "no rows of an empty record", d.with(), nil, true)
	d = newDesk(hData(1), hRec(2, 2), hData(-1))
	covers(t, "single constructors", d.with(d.con(0, d.rec(d.con(0), d.any()))), nil, false)
	covers(t, "single constructors, and more", d.with(d.con(0, d.rec(d.con(0), d.con(0))), d.any()), []int{1}, false)
	d = newDesk(hRec(1, 1, 1), hData(-1, -1))
	f, tr, any := d.con(0), d.con(1), d.any()
	covers(t, "two of three", d.with(d.rec(f, any, tr), d.rec(tr, any, any), d.rec(any, f, f), d.rec(any, tr, f)), nil, false)
	covers(t, "all eight but one", d.with(d.rec(f, f, any), d.rec(f, tr, any), d.rec(tr, f, any), d.rec(tr, tr, f)), nil, true)
	covers(t, "what all the others take", d.with(d.rec(f, f, any), d.rec(any, tr, tr), d.rec(tr, any, f), d.rec(any, any, f), d.rec(f, any, tr), d.rec(tr, f, tr), any), []int{4, 6}, false)
	d = newDesk(hData(1, 1, 1), hData(-1, -1))
	covers(t, "each constructor for itself", d.with(d.con(0, d.any()), d.con(1, d.con(0)), d.con(2, d.any()), d.con(1, d.con(1)), d.con(1, d.any())), []int{4}, false)
}

// P9.2: no rows exhaust exceptions.
func TestExceptions(t *testing.T) {
	d := newDesk(hExn(-1, 1), hInt())
	covers(t, "no exceptions", d.with(), nil, true)
	v := covers(t, "all that are known", d.with(d.exn(0), d.exn(1, d.any())), nil, true)
	if v.Kind != api.WExn || v.N < 2 {
		t.Errorf("missing: %s", show(v))
	}
	covers(t, "and any", d.with(d.exn(0), d.exn(1, d.any()), d.any()), nil, false)
	covers(t, "twice", d.with(d.exn(0), d.exn(1, d.int(1)), d.exn(0), d.exn(1, d.bind(2)), d.exn(1, d.int(2))), []int{2, 4}, true)
	d = newDesk(hExn())
	covers(t, "none is known", d.with(), nil, true)
	covers(t, "none is known, any", d.with(d.any()), nil, false)
	d = newDesk(hRec(1, 2), hExn(-1), hData(-1))
	covers(t, "in a record", d.with(d.rec(d.exn(0), d.any()), d.rec(d.exn(0), d.con(0))), []int{1}, true)
}

// P9.2: patterns that, written out, nobody could go over.
func TestSharedCover(t *testing.T) {
	num := func(n int64) api.Pat { return api.Pat{Kind: api.QInt, Int: n} }
	con := func(n int) api.Pat { return api.Pat{Kind: api.QCon, N: n} }
	for name, c := range map[string]struct {
		d    *desk
		want []int
	}{
		"one":                {doubled(60, hInt(), num(1)), nil},
		"the same twice":     {doubled(60, hInt(), num(1), num(1)), []int{1}},
		"two":                {doubled(60, hInt(), num(1), num(2), num(1)), []int{2}},
		"variables":          {doubled(60, hInt(), num(1), api.Pat{Kind: api.QBind}, num(2)), []int{2}},
		"all constructors":   {doubled(60, hData(-1, -1), con(0), con(1), con(0)), []int{2}},
		"single constructor": {doubled(60, hData(-1), con(0), api.Pat{Kind: api.QAny}), []int{1}},
	} {
		if l, e := Redundant(c.d.Match); e != api.OK || !slices.Equal(l, c.want) {
			t.Errorf("%s: %v, %v, want %v", name, l, e, c.want)
		}
	}
	d := doubled(60, hData(-1, -1), con(0), con(1))
	top := len(d.Pats) - 1
	mixed := d.rec(top/2-1, top-1)
	wide := d.bind(4)
	for range 59 {
		wide = d.rec(wide, d.any())
	}
	m := d.with(top/2, top, d.rec(wide, top-1), mixed, d.any(), d.any())
	if l, e := Redundant(m); e != api.OK || !slices.Equal(l, []int{3, 5}) {
		t.Errorf("mixed: %v, %v", l, e)
	}
	if _, is, e := Missing(m); is || e != api.OK {
		t.Errorf("mixed: Missing %v, %v", is, e)
	}
	if _, is, e := Missing(doubled(60, hData(-1), con(0)).Match); is || e != api.OK {
		t.Errorf("single constructors: Missing %v, %v", is, e)
	}
	covers(t, "large, but not too large", doubled(15, hData(-1, -1), con(0), con(1)).Match, nil, true)
}

// P9.2: such patterns of which one covers the other, part by part.
func TestSharedPairs(t *testing.T) {
	d := newDesk(hInt(), hRec(0, 0))
	for i := range 60 {
		d.Shapes = append(d.Shapes, hRec(i+1, i+1))
	}
	d.Shape = len(d.Shapes) - 1
	any, one, two := d.any(), d.int(1), d.int(2)
	row := func(a, b int) int {
		p := d.rec(a, b)
		for range 60 {
			p = d.rec(p, p)
		}
		return p
	}
	for name, c := range map[string]struct{ rows, want []int }{
		"the wider one first": {[]int{row(one, any), row(one, one), row(one, two), row(two, one)}, []int{1, 2}},
		"the wider one last":  {[]int{row(one, one), row(one, any), row(any, one), row(one, one)}, []int{3}},
		"both":                {[]int{row(one, any), row(any, one), row(one, one), row(two, two)}, []int{2}},
	} {
		if l, e := Redundant(d.with(c.rows...)); e != api.OK || !slices.Equal(l, c.want) {
			t.Errorf("%s: %v, %v, want %v", name, l, e, c.want)
		}
	}
}

// The least values of shapes: how large they are, and with which constructor.
func TestLeast(t *testing.T) {
	shapes := []api.Shape{
		hInt(), hStr(), hRec(), hExn(0, -1), hRec(0, 0, 2), hData(4, 0, 2), hData(7, -1), hRec(0, 6),
		hData(4, 5), hRec(8, 8), hData(9, 10, 7), hData(11), hRec(11),
	}
	want := []least{{1, 0}, {1, 0}, {1, 0}, {1, 0}, {4, 0}, {2, 1}, {1, 1}, {3, 0}, {3, 1}, {7, 0}, {4, 2}, {}, {}}
	all := make([]int, len(shapes))
	for i := range all {
		all[i] = i
	}
	if got := leastOf(shapes, all); !slices.Equal(got, want) {
		t.Errorf("%v, want %v", got, want)
	}
	if got := leastOf(doubled(100, hInt()).Shapes, []int{0, 1, 2, 3, 4, 5})[5]; got.size != 63 {
		t.Errorf("doubled: %v", got)
	}
}

// P9.2: as small a value as there is, where others would be beyond all bounds.
func TestSmallMissing(t *testing.T) {
	big := doubled(60, hInt()).Shapes
	top := len(big) - 1
	shapes := append(slices.Clone(big), hData(top, 0), hData(top, -1), hRec(top+1, top+2), hData(top+3, top+4))
	d := newDesk(shapes...)
	d.Shape = top + 1
	if v := covers(t, "no rows", d.with(), nil, true); show(v) != "C1(0)" {
		t.Errorf("no rows: %s", show(v))
	}
	covers(t, "a constant", d.with(d.con(1, d.int(0))), nil, true)
	covers(t, "both", d.with(d.con(0, d.bind(1)), d.con(1, d.int(0))), nil, true)
	d.Shape = top + 3
	covers(t, "in a record", d.with(d.rec(d.con(1, d.int(0)), d.any()), d.rec(d.any(), d.con(0, d.any()))), nil, true)
	d = newDesk(append(slices.Clone(big), hRec(top+2, top+2), hData(top, 0))...)
	d.Shape = top + 1
	one := d.con(1, d.int(1))
	covers(t, "the others in a record", d.with(d.rec(one, one)), nil, true)
	covers(t, "the others in a record, of two rows", d.with(d.rec(one, d.any()), d.rec(d.any(), one)), nil, true)
	m := d.with(d.rec(d.con(1, d.any()), d.con(1, d.any())))
	if v, is, e := Missing(m); e != api.ErrMany || is || v.Kind != 0 { // nothing is promised of what nobody could be told
		t.Errorf("a large one alone: %v, %v", is, e)
	}
}

// P9.2: many rows.
func TestManyRows(t *testing.T) {
	d := newDesk(hInt())
	for i := range api.MaxNodes - 1 {
		d.Rows = append(d.Rows, d.int(int64(i)))
	}
	d.Rows = append(d.Rows, 5, 77)
	covers(t, "as many ints as there may be", d.Match, []int{api.MaxNodes - 1, api.MaxNodes}, true)
	d.Rows = append(d.Rows, d.any(), 3)
	covers(t, "and all others", d.Match, []int{api.MaxNodes - 1, api.MaxNodes, api.MaxNodes + 2}, false)
	d = newDesk(hRec(1, 2), hInt(), hStr())
	any := d.any()
	var want []int
	for i := range 40000 {
		d.Rows = append(d.Rows, d.rec(d.int(int64(i)), any), d.rec(d.int(int64(i)), d.str("x")))
		want = append(want, 2*i+1)
	}
	covers(t, "pairs", d.Match, want, true)
	d = newDesk(hData(slices.Repeat([]int{1}, 40000)...), hRec(2, 2), hInt())
	any = d.any()
	for i := range 40000 {
		d.Rows = append(d.Rows, d.con(i, d.bind(3)))
	}
	d.Rows = append(d.Rows, d.con(7, any))
	covers(t, "constructors", d.Match, []int{40000}, false)
	covers(t, "all constructors but one", d.with(d.Rows[:39999]...), nil, true)
}

// P9.2: rows that leave hardly a value, of truths: all of them are tried.
func TestTruths(t *testing.T) {
	for seed := range uint64(60) {
		r := rand.New(rand.NewPCG(seed, 1))
		n := 4 + r.IntN(7)
		d := newDesk(hRec(slices.Repeat([]int{1}, n)...), hData(-1, -1))
		sides := []int{d.con(0), d.con(1), d.any()}
		var rows [][]int
		for range n * (3 + r.IntN(4)) {
			row := slices.Repeat([]int{2}, n)
			for range 3 {
				row[r.IntN(n)] = r.IntN(2)
			}
			rows = append(rows, row)
			args := make([]int, n)
			for i, s := range row {
				args[i] = sides[s]
			}
			d.Rows = append(d.Rows, d.rec(args...))
		}
		met := make([]bool, len(rows)+1)
		for v := range 1 << n {
			k := slices.IndexFunc(rows, func(row []int) bool {
				for i, s := range row {
					if s != 2 && s != v>>i&1 {
						return false
					}
				}
				return true
			})
			met[(k+len(met))%len(met)] = true
		}
		var want []int
		for i := range rows {
			if !met[i] {
				want = append(want, i)
			}
		}
		covers(t, "truths "+strconv.Itoa(int(seed)), d.Match, want, met[len(rows)])
		if l, root, e := Compile(d.Match); e == api.OK {
			holdTree(t, d.Match, l, root)
		} else {
			t.Errorf("Compile: %v", e)
		}
	}
}
