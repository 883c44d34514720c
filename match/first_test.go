package match

import (
	"math"
	"reflect"
	"strings"
	"testing"

	"kiln/api"
)

// P9.1: which values are ones of which shapes.
func TestFits(t *testing.T) {
	shapes := []api.Shape{hInt(), hStr(), hRec(0, 1), hRec(), hData(-1, 0), hExn(-1, 1), hData(-1, 7), hRec(0, 6)}
	for name, c := range map[string]struct {
		v     api.Datum
		shape int // -1: none
	}{
		"an int":                    {wInt(5), 0},
		"the least int":             {wInt(math.MinInt64), 0},
		"the greatest int":          {wInt(math.MaxInt64), 0},
		"a string":                  {wStr("x"), 1},
		"any bytes":                 {wStr("\x00\xff"), 1},
		"a long one":                {wStr(strings.Repeat("a", api.MaxString+1)), 1},
		"a record":                  {wRec(wInt(1), wStr("")), 2},
		"a record of others":        {wRec(wStr(""), wInt(1)), -1},
		"a record of few":           {wRec(wInt(1)), -1},
		"a record of many":          {wRec(wInt(1), wStr(""), wInt(1)), -1},
		"an empty record":           {wRec(), 3},
		"con 1":                     {wCon(1, wInt(3)), 4},
		"con 1 of a string":         {wCon(1, wStr("")), -1},
		"con 1 of nothing":          {wCon(1), -1},
		"con 1 of two":              {wCon(1, wInt(3), wInt(3)), -1},
		"con 0 of one":              {wCon(0, wInt(3)), -1},
		"con -1":                    {wCon(-1), -1},
		"con 2":                     {wCon(2), -1},
		"exn 0":                     {wExn(0), 5},
		"exn 1":                     {wExn(1, wStr("a")), 5},
		"exn 1 of an int":           {wExn(1, wInt(1)), -1},
		"exn 1 of nothing":          {wExn(1), -1},
		"exn 0 of one":              {wExn(0, wStr("a")), -1},
		"exn 2":                     {wExn(2), 5},
		"an exn far above":          {wExn(math.MaxInt), 5},
		"exn 2 of one":              {wExn(2, wStr("a")), -1},
		"exn -1":                    {wExn(-1), -1},
		"a list":                    {wList(1, 2, 3), 6},
		"a list that ends in none":  {wTail(wCon(2), 1, 2, 3), -1},
		"a list with a string":      {wCon(1, wRec(wInt(1), wCon(1, wRec(wStr("a"), wCon(0))))), -1},
		"no kind":                   {api.Datum{}, -1},
		"a kind above":              {api.Datum{Kind: 6}, -1},
		"an int with other fields":  {api.Datum{Kind: api.WInt, N: -4, Text: "x", Args: []api.Datum{{}}}, 0},
		"a string with others":      {api.Datum{Kind: api.WStr, N: -4, Int: 3, Args: []api.Datum{{}}}, 1},
		"a record with others":      {api.Datum{Kind: api.WRec, N: -4, Int: 3, Text: "x"}, 3},
		"a list with others":        {api.Datum{Kind: api.WCon, N: 1, Int: 3, Text: "x", Args: wList(1).Args}, 6},
		"an exception with others":  {api.Datum{Kind: api.WExn, N: 7, Int: 3, Text: "x"}, 5},
		"an empty list of fields":   {api.Datum{Kind: api.WRec, Args: []api.Datum{}}, 3},
		"an empty list of no field": {api.Datum{Kind: api.WExn, Args: []api.Datum{}}, 5},
	} {
		d := newDesk(shapes...)
		d.rows(d.bind(8))
		for s := range shapes {
			d.Shape = s
			want := s == c.shape
			if got := Fits(d.Match, c.v); got != want {
				t.Errorf("%s, shape %d: %v", name, s, got)
			}
			i, b, ok := First(d.Match, c.v)
			if ok != want || i != 0 || want && !reflect.DeepEqual(b, []api.Bind{{Var: 8, Val: c.v}}) || !want && b != nil {
				t.Errorf("%s, shape %d: First: %d, %s, %v", name, s, i, showBinds(b), ok)
			}
		}
	}
	d := newDesk(shapes...)
	for s := range []int{4, 6} {
		d.Shape = []int{4, 6}[s]
		if !Fits(d.Match, wCon(0)) {
			t.Errorf("con 0, shape %d", d.Shape)
		}
	}
}

// P9.1: values far larger than programs have them, and such as are made of themselves.
func TestStrangeValues(t *testing.T) {
	long := wCon(0)
	for range 70000 {
		long = wCon(1, wRec(wInt(1), long))
	}
	d := listDesk()
	m := d.rows(d.con(0), d.cons(d.int(2), d.any()), d.bind(5, d.cons(d.bind(6), d.bind(7))))
	if i, b, ok := First(m, long); i != 2 || !ok || len(b) != 3 || b[0].Var != 5 || b[1].Var != 6 || b[2].Var != 7 || !reflect.DeepEqual(b[2].Val, long.Args[0].Args[1]) {
		t.Errorf("a long list: %d, %v", i, ok)
	}
	bad := wCon(2)
	for range 70000 {
		bad = wCon(1, wRec(wInt(1), bad))
	}
	if Fits(m, bad) {
		t.Error("a long list that ends in none fits")
	}
	self := []api.Datum{{Kind: api.WCon, N: 1}}
	self[0].Args = self
	both := []api.Datum{{Kind: api.WCon, N: 1}, {Kind: api.WRec}}
	both[0].Args = both[1:]
	both[1].Args = []api.Datum{both[0], both[0]}
	both[1].Args[0].Args, both[1].Args[1].Args = both[1:], both[1:]
	for name, c := range map[string]struct {
		m api.Match
		v api.Datum
	}{
		"made of itself":        {newDesk(hData(-1, 0)).Match, self[0]},
		"made of itself, twice": {newDesk(hData(-1, 1), hRec(0, 0)).Match, both[0]},
	} {
		c.m.Pats, c.m.Rows = []api.Pat{{Kind: api.QBind}}, []int{0}
		if Fits(c.m, c.v) {
			t.Errorf("%s: it fits", name)
		}
		if _, b, ok := First(c.m, c.v); ok || b != nil {
			t.Errorf("%s: First", name)
		}
		l, root, _ := Compile(c.m)
		if _, b, ok := Run(l, root, c.v); ok || b != nil {
			t.Errorf("%s: Run", name)
		}
	}
}

// P9.1: the first row that is matched, and what its variables stand for.
func TestFirst(t *testing.T) {
	d := listDesk()
	x, y, any := d.bind(7), d.bind(8), d.any()
	none := d.con(0)
	one := d.cons(x, none)
	two := d.cons(d.int(1), d.cons(y, any))
	all := d.bind(3, d.cons(d.bind(2, d.bind(1, d.int(4))), d.bind(0)))
	twice := d.cons(x, d.cons(x, d.bind(7)))
	for name, c := range map[string]struct {
		rows  []int
		v     api.Datum
		row   int
		binds string
		ok    bool
	}{
		"[7] in x :: []":             {[]int{one}, wList(7), 0, "7=7", true},
		"[7, 8] in x :: []":          {[]int{one}, wList(7, 8), 0, "", false},
		"no rows":                    {nil, wList(7), 0, "", false},
		"the second one":             {[]int{none, one}, wList(9), 1, "7=9", true},
		"the first of two":           {[]int{none, one, one}, wList(9), 1, "7=9", true},
		"any ahead":                  {[]int{any, one}, wList(9), 0, "", true},
		"a constant":                 {[]int{one, two, any}, wList(1, 5, 6), 1, "8=5", true},
		"another constant":           {[]int{one, two, any}, wList(2, 5, 6), 2, "", true},
		"too short":                  {[]int{two, d.bind(-9)}, wList(1), 1, "-9=C1({1 C0()})", true},
		"variables in one another":   {[]int{all}, wList(4, 5), 0, "3=C1({4 C1({5 C0()})}), 2=4, 1=4, 0=C1({5 C0()})", true},
		"not what is in a variable":  {[]int{all}, wList(5, 5), 0, "", false},
		"one pattern twice":          {[]int{twice}, wList(4, 5, 6), 0, "7=4, 7=5, 7=C1({6 C0()})", true},
		"not one of the shape":       {[]int{any}, wInt(4), 0, "", false},
		"not one of the shape, last": {[]int{any}, wTail(wInt(4), 3), 0, "", false},
	} {
		m := d.with(c.rows...)
		i, b, ok := First(m, c.v)
		if i != c.row || ok != c.ok || showBinds(b) != c.binds {
			t.Errorf("%s: %d, %s, %v", name, i, showBinds(b), ok)
		}
	}
	d = newDesk(hRec(1, 2, 3), hInt(), hStr(), hExn(-1, 2))
	m := d.rows(
		d.rec(d.int(-1), d.any(), d.exn(0)),
		d.rec(d.any(), d.str("a"), d.exn(1, d.bind(4, d.str("b")))),
		d.rec(d.int(math.MinInt64), d.str("\x00"), d.bind(5)))
	for _, c := range []struct {
		v     api.Datum
		row   int
		binds string
		ok    bool
	}{
		{wRec(wInt(-1), wStr("a"), wExn(0)), 0, "", true},
		{wRec(wInt(-1), wStr("a"), wExn(1, wStr("b"))), 1, `4="b"`, true},
		{wRec(wInt(-1), wStr("a"), wExn(1, wStr("c"))), 0, "", false},
		{wRec(wInt(math.MinInt64), wStr("\x00"), wExn(77)), 2, "5=E77()", true},
		{wRec(wInt(math.MinInt64), wStr(""), wExn(0)), 0, "", false},
	} {
		i, b, ok := First(m, c.v)
		if i != c.row || ok != c.ok || showBinds(b) != c.binds {
			t.Errorf("%s: %d, %s, %v", show(c.v), i, showBinds(b), ok)
		}
	}
}
