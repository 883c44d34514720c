package match

import (
	"math"
	"slices"
	"testing"

	"kiln/api"
)

// refuses asks that all calls refuse a match for the same reason.
func refuses(t *testing.T, name string, m api.Match, want api.Errno) {
	t.Helper()
	if e := Check(m); e != want {
		t.Errorf("%s: Check: %v, want %v", name, e, want)
	}
	l, e := Redundant(m)
	if e != want || l != nil {
		t.Errorf("%s: Redundant: %v, %v, want %v", name, l, e, want)
	}
	v, is, e := Missing(m)
	if e != want || is || v.Kind != 0 || v.Args != nil {
		t.Errorf("%s: Missing: %s, %v, %v, want %v", name, show(v), is, e, want)
	}
	n, root, e := Compile(m)
	if e != want || n != nil || root != 0 {
		t.Errorf("%s: Compile: %v, %d, %v, want %v", name, n, root, e, want)
	}
	for _, v := range []api.Datum{{}, wInt(1), wStr(""), wRec(), wCon(0), wExn(0), wExn(9)} {
		if Fits(m, v) {
			t.Errorf("%s: %s fits", name, show(v))
		}
		if i, b, ok := First(m, v); i != 0 || b != nil || ok {
			t.Errorf("%s: First: %d, %s, %v", name, i, showBinds(b), ok)
		}
	}
}

// P9.1: shapes that are none.
func TestNoShapes(t *testing.T) {
	for name, shapes := range map[string][]api.Shape{
		"none":                            {},
		"no kind":                         {{}},
		"a kind below":                    {{Kind: -1}},
		"a kind above":                    {{Kind: 6}},
		"an int with an argument":         {{Kind: api.HInt, Args: []int{0}}},
		"an int with -1":                  {{Kind: api.HInt, Args: []int{-1}}},
		"a string with an argument":       {{Kind: api.HStr, Args: []int{0}}},
		"a record with -1":                {hRec(-1)},
		"a record with one below":         {hRec(-2)},
		"a record with one above":         {hRec(1)},
		"a data type of nothing":          {hData()},
		"data with one below":             {hData(-1, -2)},
		"data with one above":             {hData(-1, 1)},
		"an exception with one below":     {hExn(-2)},
		"an exception with one above":     {hExn(-1, 1)},
		"one that is not reached":         {hInt(), hRec(-1)},
		"another one that is not reached": {hInt(), hInt(), {Kind: 9}},
		"data of itself":                  {hData(0)},
		"data of itself, twice":           {hData(0, 0)},
		"a record of itself":              {hRec(0)},
		"a record of ints and itself":     {hRec(1, 0), hInt()},
		"data of a record of itself":      {hData(1), hRec(2, 0), hInt()},
		"each of the other":               {hData(1), hData(0)},
		"reached by a field":              {hRec(1, 2), hInt(), hData(2)},
		"reached by a constructor":        {hData(-1, 1), hData(1)},
		"reached by an exception":         {hExn(-1, 1), hRec(1)},
		"reached at last":                 {hData(-1, 1), hRec(2, 2), hExn(3), hData(-1, 4), hRec(4)},
	} {
		refuses(t, name, newDesk(shapes...).Match, api.ErrShapes)
		d := newDesk(shapes...)
		refuses(t, name+", and a row", d.rows(d.any()), api.ErrShapes)
	}
	for _, s := range []int{-1, 1, 2, -2} {
		m := newDesk(hInt()).Match
		m.Shape = s
		refuses(t, "no such shape", m, api.ErrShapes)
	}
}

// P9.1: shapes with values, as the least such set has them.
func TestShapes(t *testing.T) {
	for name, shapes := range map[string][]api.Shape{
		"an int":                      {hInt()},
		"a string":                    {hStr()},
		"an empty record":             {hRec()},
		"an exception of nothing":     {hExn()},
		"an exception of itself":      {hExn(0)},
		"an exception without one":    {hExn(-1, -1)},
		"one constructor":             {hData(-1)},
		"itself or nothing":           {hData(0, -1)},
		"lists":                       {hData(-1, 1), hRec(2, 0), hInt()},
		"trees, the other way round":  {hInt(), hRec(2, 2), hData(1, 0)},
		"each of the other":           {hData(1), hData(2, 0), hRec()},
		"a long way down":             {hRec(1, 1), hRec(2, 2), hRec(3, 3), hData(0, 4), hRec()},
		"no value that is not asked":  {hInt(), hData(1), hRec(2)},
		"one that reaches the others": {hRec(), hRec(2), hData(1)},
	} {
		d := newDesk(shapes...)
		if e := Check(d.Match); e != api.OK {
			t.Errorf("%s: %v", name, e)
		}
		if e := Check(d.rows(d.any(), d.bind(1))); e != api.OK {
			t.Errorf("%s, with rows: %v", name, e)
		}
	}
	m := newDesk(hData(0), hInt()).Match
	m.Shape = 1
	if e := Check(m); e != api.OK {
		t.Errorf("another one: %v", e)
	}
}

// P9.1: which patterns are ones for which shapes.
func TestPatternsForShapes(t *testing.T) {
	shapes := []api.Shape{hInt(), hStr(), hRec(0, 1), hRec(), hData(-1, 0), hExn(-1, 1)}
	d := newDesk(shapes...)
	num, txt, any, id := d.int(1), d.str("a"), d.any(), d.bind(3)
	all := []int{0, 1, 2, 3, 4, 5}
	for name, c := range map[string]struct {
		p  int
		is []int
	}{
		"any":                      {any, all},
		"a variable":               {id, all},
		"a variable of any":        {d.bind(-1, any), all},
		"an int":                   {num, []int{0}},
		"a variable of an int":     {d.bind(0, num), []int{0}},
		"a string":                 {txt, []int{1}},
		"a record":                 {d.rec(num, txt), []int{2}},
		"a record of any":          {d.rec(any, id), []int{2}},
		"a record of others":       {d.rec(txt, num), nil},
		"a record of few":          {d.rec(num), nil},
		"a record of many":         {d.rec(num, txt, any), nil},
		"an empty record":          {d.rec(), []int{3}},
		"con 0":                    {d.con(0), []int{4}},
		"con 1":                    {d.con(1, num), []int{4}},
		"con 0 of any":             {d.con(0, any), nil},
		"con 1 of nothing":         {d.con(1), nil},
		"con 1 of a string":        {d.con(1, txt), nil},
		"con 1 of two":             {d.con(1, num, num), nil},
		"con 2":                    {d.con(2), nil},
		"con 2 of any":             {d.con(2, any), nil},
		"con -1":                   {d.con(-1), nil},
		"exn 0":                    {d.exn(0), []int{5}},
		"exn 1":                    {d.exn(1, txt), []int{5}},
		"exn 0 of any":             {d.exn(0, any), nil},
		"exn 1 of nothing":         {d.exn(1), nil},
		"exn 1 of an int":          {d.exn(1, num), nil},
		"exn 2":                    {d.exn(2), nil},
		"exn -1":                   {d.exn(-1), nil},
		"an int of any":            {d.put(api.Pat{Kind: api.QInt, Args: []int{any}}), nil},
		"a string of any":          {d.put(api.Pat{Kind: api.QStr, Args: []int{any}}), nil},
		"a variable of two":        {d.bind(1, any, any), nil},
		"no kind":                  {d.put(api.Pat{}), nil},
		"a kind below":             {d.put(api.Pat{Kind: -1}), nil},
		"a kind above":             {d.put(api.Pat{Kind: 8}), nil},
		"a variable of no pattern": {d.bind(1, -1), nil},
		"a variable of itself":     {d.put(api.Pat{Kind: api.QBind, Args: []int{len(d.Pats)}}), nil},
		"a variable of one above":  {d.put(api.Pat{Kind: api.QBind, Args: []int{len(d.Pats) + 1}}), nil},
		"a record of itself":       {d.rec(num, len(d.Pats)), nil},
		"con of itself":            {d.con(1, len(d.Pats)), nil},
		"a record of no patterns":  {d.rec(-1, -1), nil},
		"con of no pattern":        {d.con(1, -1), nil},
		"any, with all fields":     {d.put(api.Pat{Kind: api.QAny, N: 7, Int: 8, Text: "x", Args: []int{num, txt, num}}), all},
		"any of itself":            {d.any(len(d.Pats)), nil},
		"any of no pattern":        {d.any(num, -1), nil},
		"an int, with all fields":  {d.put(api.Pat{Kind: api.QInt, N: -7, Text: "x"}), []int{0}},
		"a record, with a number":  {d.put(api.Pat{Kind: api.QRec, N: 12, Int: 3, Text: "x"}), []int{3}},
	} {
		for s := range shapes {
			m := d.with(c.p)
			m.Shape = s
			want := api.ErrPattern
			if slices.Contains(c.is, s) {
				want = api.OK
			}
			if e := Check(m); e != want {
				t.Errorf("%s for shape %d: %v, want %v", name, s, e, want)
			}
			m.Rows = []int{any, c.p, any}
			if e := Check(m); e != want {
				t.Errorf("%s for shape %d, as the second row: %v, want %v", name, s, e, want)
			}
		}
	}
}

// P9.1: a pattern of which none is made may be anything, one of which one is made may not.
func TestOtherPatterns(t *testing.T) {
	d := listDesk()
	bad := d.put(api.Pat{Kind: 77, Args: []int{-5}})
	d.bind(1, 9)
	d.con(5)
	d.rec(d.str("x"), bad)
	ok := d.cons(d.int(1), d.any())
	if e := Check(d.with(ok)); e != api.OK {
		t.Errorf("%v", e)
	}
	for name, row := range map[string]int{"none": -1, "far below": -100, "behind the last": len(d.Pats), "bad": bad} {
		refuses(t, name, d.with(ok, row), api.ErrPattern)
	}
	for name, p := range map[string]int{
		"in a field":         d.cons(bad, d.any()),
		"in another field":   d.cons(d.any(), bad),
		"in a variable":      d.bind(1, bad),
		"far below":          d.bind(1, d.cons(d.any(), d.bind(2, d.cons(d.any(), d.bind(3, bad))))),
		"a string in a list": d.cons(d.any(), d.cons(d.str("x"), d.any())),
	} {
		refuses(t, name, d.with(ok, p), api.ErrPattern)
	}
	shared := newDesk(hRec(1, 2), hInt(), hStr())
	p := shared.int(1)
	refuses(t, "one pattern for two shapes", shared.rows(shared.rec(p, p)), api.ErrPattern)
	shared = newDesk(hRec(1, 2, 1), hData(-1, 2), hData(-1))
	p = shared.con(0)
	if e := Check(shared.rows(shared.rec(p, p, p))); e != api.OK {
		t.Errorf("one pattern for two shapes that have it: %v", e)
	}
}

// P9.1: a pattern for all values, too, has no Arg that is not lower, wherever a row is made of it.
func TestArgsOfAny(t *testing.T) {
	for name, args := range map[string]func(self int) []int{
		"itself":             func(self int) []int { return []int{self} },
		"the next one":       func(self int) []int { return []int{self + 1} },
		"below 0":            func(int) []int { return []int{-1} },
		"far below 0":        func(int) []int { return []int{math.MinInt} },
		"behind all":         func(int) []int { return []int{math.MaxInt} },
		"behind a lower one": func(self int) []int { return []int{0, self} },
		"ahead of a lower":   func(self int) []int { return []int{self, 0} },
	} {
		d := newDesk(hRec(1, 2), hData(-1, 2), hExn(0, 3), hInt())
		all := d.any()
		self := len(d.Pats)
		bad := d.any(args(self)...)
		v := wRec(wCon(0), wExn(2))
		if e := Check(d.with(all)); e != api.OK || !Fits(d.with(all), v) {
			t.Errorf("%s, of no row: %v, or %s does not fit", name, e, show(v))
		}
		for where, p := range map[string]int{
			"a row":                  bad,
			"in a variable":          d.bind(1, bad),
			"in a field":             d.rec(all, bad),
			"in a constructor":       d.rec(d.con(1, bad), all),
			"in an exception":        d.rec(all, d.exn(1, bad)),
			"in what stands for all": d.any(all, bad),
			"far down":               d.bind(1, d.rec(all, d.exn(0, d.rec(d.con(1, d.any(d.bind(2, bad))), all)))),
		} {
			for _, m := range []api.Match{d.with(p), d.with(all, p), d.with(p, all)} {
				refuses(t, name+", "+where, m, api.ErrPattern)
				if _, _, ok := First(m, v); ok || Fits(m, v) {
					t.Errorf("%s, %s: %s fits, or has a first row", name, where, show(v))
				}
			}
		}
	}
}

// P9.1: below a pattern for all values, as in others, each Arg is lower; that is all that is asked there.
func TestBelowAny(t *testing.T) {
	d := newDesk(hInt())
	for name, x := range map[string]api.Pat{
		"a variable":    {Kind: api.QBind, Args: []int{9}},
		"a record":      {Kind: api.QRec, Args: []int{-1}},
		"an int":        {Kind: api.QInt, Args: []int{9}},
		"no kind":       {Args: []int{9}},
		"a constructor": {Kind: api.QCon, Args: []int{0}},
	} {
		m := newDesk(hInt())
		refuses(t, name, m.rows(m.any(m.put(x))), api.ErrPattern)
	}
	name := d.bind(5)
	one := d.int(1)
	odd := d.put(api.Pat{Kind: 77, Args: []int{one, name}})
	m := d.rows(one, d.any(name, one, d.str("x"), d.con(4), odd, d.rec(name, odd)), d.any())
	if e := Check(m); e != api.OK {
		t.Fatalf("%v", e)
	}
	for n, row := range map[int64]int{1: 0, 2: 1} {
		if i, b, ok := First(m, wInt(n)); i != row || b != nil || !ok {
			t.Errorf("First of %d: %d, %s, %v", n, i, showBinds(b), ok)
		}
	}
	if l, e := Redundant(m); !slices.Equal(l, []int{2}) || e != api.OK {
		t.Errorf("Redundant: %v, %v", l, e)
	}
	if v, is, e := Missing(m); is || e != api.OK {
		t.Errorf("Missing: %s, %v, %v", show(v), is, e)
	}
	if l, root, e := Compile(m); e != api.OK {
		t.Errorf("Compile: %v", e)
	} else if i, b, ok := Run(l, root, wInt(2)); i != 1 || len(b) != 0 || !ok {
		t.Errorf("Run: %d, %s, %v", i, showBinds(b), ok)
	}
}

// P9.1: of two errors the first one.
func TestErrorsInOrder(t *testing.T) {
	d := newDesk(hInt(), hData(1))
	refuses(t, "a row that is none", d.with(7), api.ErrPattern)
	d.Shape = 1
	refuses(t, "a shape without values, and a row that is none", d.with(7), api.ErrShapes)
	refuses(t, "a shape without values, and a row of itself", d.with(d.any(0)), api.ErrShapes)
	many := newDesk(hInt())
	many.Shapes = slices.Repeat(many.Shapes, api.MaxNodes)
	many.Pats = make([]api.Pat, api.MaxNodes)
	many.Pats[api.MaxNodes-1].Kind = api.QAny
	many.Rows = []int{api.MaxNodes - 1}
	many.Shape = api.MaxNodes - 1
	if e := Check(many.Match); e != api.OK {
		t.Errorf("as many as may be: %v", e)
	}
	if !Fits(many.Match, wInt(5)) {
		t.Error("as many as may be: 5 does not fit")
	}
	shapes := many.Match
	shapes.Shapes = append(slices.Clip(shapes.Shapes), hInt())
	refuses(t, "a shape more", shapes, api.ErrMany)
	pats := many.Match
	pats.Pats = append(slices.Clip(pats.Pats), api.Pat{})
	refuses(t, "a pattern more", pats, api.ErrMany)
	pats.Rows = []int{0}
	refuses(t, "a pattern more, and a bad row", pats, api.ErrPattern)
	pats.Pats[0] = api.Pat{Kind: api.QAny, Args: []int{0}}
	refuses(t, "a pattern more, and one for all values of itself", pats, api.ErrPattern)
	shapes.Rows = []int{-1}
	refuses(t, "a shape more, and a bad row", shapes, api.ErrPattern)
	pats.Shapes = append(slices.Clip(pats.Shapes), hData())
	refuses(t, "all of it", pats, api.ErrShapes)
	rows := many.Match
	rows.Rows = slices.Repeat(rows.Rows, api.MaxNodes+5)
	if e := Check(rows); e != api.OK {
		t.Errorf("many rows: %v", e)
	}
	if l, e := Redundant(rows); len(l) != api.MaxNodes+4 || e != api.OK {
		t.Errorf("many rows: Redundant: %d, %v", len(l), e)
	}
}

// doubled are records of two records of two, so many times, of a shape; and rows that are records of a pattern likewise: they are small, but not when they are written out.
func doubled(depth int, leaf api.Shape, pats ...api.Pat) *desk {
	d := newDesk(leaf)
	for i := range depth {
		d.Shapes = append(d.Shapes, hRec(i, i))
	}
	d.Shape = depth
	for _, x := range pats {
		p := d.put(x)
		for range depth {
			p = d.rec(p, p)
		}
		d.Rows = append(d.Rows, p)
	}
	return d
}

// P9.1: patterns that share parts are not written out.
func TestSharedParts(t *testing.T) {
	if e := Check(doubled(200, hInt(), api.Pat{Kind: api.QInt}, api.Pat{Kind: api.QAny}, api.Pat{Kind: api.QBind}).Match); e != api.OK {
		t.Errorf("%v", e)
	}
	refuses(t, "a bad part", doubled(200, hInt(), api.Pat{Kind: api.QStr}).Match, api.ErrPattern)
	d := doubled(200, hInt(), api.Pat{Kind: api.QInt})
	d.Shape = 199
	refuses(t, "a step too far", d.Match, api.ErrPattern)
}
