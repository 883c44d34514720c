package types

import (
	"fmt"
	"slices"
	"strings"
	"testing"

	"kiln/api"
)

// P7.1: the constructors that each book has.
func TestFirstConstructors(t *testing.T) {
	b := New()
	for con, want := range []constructor{
		{"int", 0, api.If}, {"real", 0, api.Never}, {"char", 0, api.If}, {"string", 0, api.If}, {"exn", 0, api.Never}, {"ref", 1, api.Always}, {"array", 1, api.Always},
	} {
		if name, arity, equal, ok := b.Named(con); (constructor{name, arity, equal}) != want || !ok {
			t.Errorf("Named(%d): %s, %d, %d, %t", con, name, arity, equal, ok)
		}
	}
	for _, con := range []int{-1, 7, api.MaxTypes, -1 << 63, 1<<63 - 1} {
		if name, arity, equal, ok := b.Named(con); name != "" || arity != 0 || equal != 0 || ok {
			t.Errorf("Named(%d): %s, %d, %d, %t", con, name, arity, equal, ok)
		}
	}
}

// P7.1: new constructors, numbered from 7 on.
func TestCon(t *testing.T) {
	b := New()
	for i, want := range []constructor{
		{"a", 0, api.Never}, {"b", 64, api.If}, {"a", 1, api.Always}, {"", 2, api.If}, {"int", 3, api.Never},
	} {
		con, e := b.Con(want.name, want.arity, want.equal)
		if con != 7+i || e != api.OK {
			t.Errorf("Con: %d, %d", con, e)
		}
		if name, arity, equal, ok := b.Named(con); (constructor{name, arity, equal}) != want || !ok {
			t.Errorf("Named(%d): %s, %d, %d, %t", con, name, arity, equal, ok)
		}
	}
	for _, wrong := range []constructor{{"a", -1, api.If}, {"a", 65, api.If}, {"a", 1, -1}, {"a", 1, 3}, {"a", 1<<63 - 1, 1 << 62}} {
		if con, e := b.Con(wrong.name, wrong.arity, wrong.equal); con != 0 || e != api.ErrArg {
			t.Errorf("Con(%v): %d, %d", wrong, con, e)
		}
	}
	if con, e := b.Con("next", 0, api.If); con != 12 || e != api.OK {
		t.Errorf("Con behind wrong ones: %d, %d", con, e)
	}
}

// P7.1: what each maker makes, by Look.
func TestLook(t *testing.T) {
	d := newDesk(t)
	d.v("x", 0, false, api.Any)
	d.v("y", api.MaxLevel, true, api.Num)
	d.v("z", 7, false, api.Text)
	d.rigid("'a", 3)
	d.rigid("''b", api.MaxLevel)
	d.types["nameless"] = d.rigid("", 4)
	d.open("r", 5, "{1 : x, 2 : y, a : z}")
	d.open("s", 0, "unit")
	x, y, z := d.types["x"], d.types["y"], d.types["z"]
	d.tells("x", api.Type{Kind: api.YVar})
	d.tells("y", api.Type{Kind: api.YVar, Level: api.MaxLevel, Equal: true, Class: api.Num})
	d.tells("z", api.Type{Kind: api.YVar, Level: 7, Class: api.Text})
	d.tells("'a", api.Type{Kind: api.YVar, Level: 3, Rigid: "'a"})
	d.tells("''b", api.Type{Kind: api.YVar, Level: api.MaxLevel, Rigid: "''b"})
	d.tells("nameless", api.Type{Kind: api.YVar, Level: 4})
	d.tells("r", api.Type{Kind: api.YVar, Level: 5, Open: true, Labels: []string{"1", "2", "a"}, Args: []int{x, y, z}})
	d.tells("s", api.Type{Kind: api.YVar, Open: true})
	d.tells("int", api.Type{Kind: api.YCon, Con: api.ConInt})
	d.tells("string", api.Type{Kind: api.YCon, Con: api.ConString})
	d.tells("x ref", api.Type{Kind: api.YCon, Con: api.ConRef, Args: []int{x}})
	d.tells("(y, x) pair", api.Type{Kind: api.YCon, Con: d.cons["pair"], Args: []int{y, x}})
	d.tells("x -> z", api.Type{Kind: api.YArrow, Args: []int{x, z}})
	d.tells("{a : x, b : y}", api.Type{Kind: api.YRec, Labels: []string{"a", "b"}, Args: []int{x, y}})
	d.tells("x * y * x", api.Type{Kind: api.YRec, Labels: []string{"1", "2", "3"}, Args: []int{x, y, x}})
	d.tells("unit", api.Type{Kind: api.YRec})
}

// P7.1: no type.
func TestLookWrong(t *testing.T) {
	b := New()
	for _, x := range []int{0, -1, 1, api.MaxTypes, -1 << 63, 1<<63 - 1} {
		if told, ok := b.Look(x); !sameType(told, api.Type{}) || ok {
			t.Errorf("Look(%d): %+v, %t", x, told, ok)
		}
	}
	x, _ := b.Var(1, false, api.Any)
	if _, ok := b.Look(x + 1); ok {
		t.Error("Look of the one behind the last: true")
	}
	if _, ok := b.Look(x); !ok {
		t.Error("Look of the last: false")
	}
}

// P7.1: a type that is known as a variable is told as what it is now, and what is told of a too large one.
func TestLookNow(t *testing.T) {
	d := newDesk(t)
	d.vars("x y z")
	d.unify("x", "y")
	d.unify("y", "z list")
	want := api.Type{Kind: api.YCon, Con: d.cons["list"], Args: []int{d.types["z"]}}
	d.tells("x", want)
	d.tells("y", want)
	d.huge("h", "v")
	if h := d.look("h"); h.Kind != api.YRec || len(h.Labels) != 100 || len(h.Args) != 100 {
		t.Errorf("Look of a too large one: %+v", h)
	}
}

// noType are numbers that are no type of a book with few of them.
var noType = []int{-1, 10000, -1 << 63, 1<<63 - 1}

// P7.1: the errors of makers, and two at once, in their order.
func TestMakersRefuse(t *testing.T) {
	d := newDesk(t)
	d.vars("x")
	d.huge("h", "v")
	x, h := d.types["x"], d.types["h"]
	list, pair := d.cons["list"], d.cons["pair"]
	check := func(what string, n int, e, want api.Errno) {
		t.Helper()
		if n != 0 || e != want {
			t.Errorf("%s: %d, %d; want 0, %d", what, n, e, want)
		}
	}
	before := photo(d.b)
	for _, level := range []int{-1, api.MaxLevel + 1, -1 << 63, 1<<63 - 1} {
		n, e := d.b.Var(level, false, api.Any)
		check("Var of a wrong level", n, e, api.ErrArg)
		n, e = d.b.Rigid(level, "'a")
		check("Rigid of a wrong level", n, e, api.ErrArg)
		n, e = d.b.Open(level, nil)
		check("Open of a wrong level", n, e, api.ErrArg)
		n, e = d.b.Open(level, []string{"b", "a"}, x, h)
		check("Open of a wrong level, wrong labels, too large", n, e, api.ErrArg)
	}
	for _, class := range []api.Class{-1, 3, 1 << 62} {
		n, e := d.b.Var(1, false, class)
		check("Var of a wrong class", n, e, api.ErrArg)
	}
	for _, no := range noType {
		n, e := d.b.Apply(no)
		check("Apply of no constructor", n, e, api.ErrType)
		n, e = d.b.Apply(list, no)
		check("Apply to no type", n, e, api.ErrType)
		n, e = d.b.Apply(pair, h, x, no)
		check("Apply to no type, too large ones, too many", n, e, api.ErrType)
		n, e = d.b.Arrow(no, h)
		check("Arrow from no type", n, e, api.ErrType)
		n, e = d.b.Arrow(h, no)
		check("Arrow to no type", n, e, api.ErrType)
		n, e = d.b.Record([]string{"a", "a"}, h, no)
		check("Record of no type, wrong labels, too large", n, e, api.ErrType)
		n, e = d.b.Open(-1, []string{"a", "a"}, h, no)
		check("Open of no type, a wrong level, wrong labels, too large", n, e, api.ErrType)
	}
	for _, args := range [][]int{{}, {x, x}, {h, h}, {x, x, x}} {
		n, e := d.b.Apply(list, args...)
		check("Apply to a wrong number of types", n, e, api.ErrArity)
	}
	n, e := d.b.Apply(api.ConInt, x)
	check("Apply of int", n, e, api.ErrArity)
	n, e = d.b.Apply(list, h)
	check("Apply to a too large one", n, e, api.ErrLong)
	n, e = d.b.Arrow(h, x)
	check("Arrow from a too large one", n, e, api.ErrLong)
	n, e = d.b.Arrow(x, h)
	check("Arrow to a too large one", n, e, api.ErrLong)
	n, e = d.b.Record([]string{"a"}, h)
	check("Record of a too large one", n, e, api.ErrLong)
	n, e = d.b.Open(1, []string{"a"}, h)
	check("Open of a too large one", n, e, api.ErrLong)
	n, e = d.b.Record([]string{"b", "a"}, h, x)
	check("Record of wrong labels and a too large one", n, e, api.ErrLabels)
	if len(photo(d.b)) != len(before) {
		t.Error("wrong calls have made types")
	}
}

// Labels: those that may stand together, in their order.
func TestLabels(t *testing.T) {
	var most []string
	for i := range api.MaxLabels {
		most = append(most, fmt.Sprint(i+1))
	}
	nines := strings.Repeat("9", 40)
	for _, c := range []struct {
		labels []string
		ok     bool
	}{
		{nil, true},
		{[]string{}, true},
		{[]string{"a"}, true},
		{[]string{""}, false},
		{[]string{"", "a"}, false},
		{[]string{"a", ""}, false},
		{[]string{"a", "b", "c"}, true},
		{[]string{"a", "a"}, false},
		{[]string{"b", "a"}, false},
		{[]string{"a", "c", "b"}, false},
		{[]string{"a", "ab", "b"}, true},
		{[]string{"ab", "a"}, false},
		{[]string{"B", "a"}, true},
		{[]string{"a", "B"}, false},
		{[]string{"a", "a'", "a1", "b"}, true},
		{[]string{"\x00", "\xff"}, true},
		{[]string{"1", "2", "3"}, true},
		{[]string{"2", "5"}, true},
		{[]string{"2", "10"}, true},
		{[]string{"10", "2"}, false},
		{[]string{"9", "10", "99", "100"}, true},
		{[]string{"19", "20", "21"}, true},
		{[]string{"1", "1"}, false},
		{[]string{nines, "1" + nines, "2" + nines}, true},
		{[]string{"1" + nines, nines}, false},
		{[]string{"18446744073709551617", "18446744073709551618"}, true},
		{[]string{"2", "18446744073709551617"}, true},
		{[]string{"1", "!"}, true}, // a number is ahead of all others, though ! is ahead of 1 by its byte
		{[]string{"!", "1"}, false},
		{[]string{"99", "a"}, true},
		{[]string{"a", "99"}, false},
		{[]string{"1", "0"}, true}, // a zero ahead: no number
		{[]string{"0", "1"}, false},
		{[]string{"9", "01"}, true},
		{[]string{"01", "9"}, false},
		{[]string{"0", "01", "010", "02"}, true},
		{[]string{"2", "1a"}, true},
		{[]string{"1a", "2"}, false},
		{[]string{"1a", "1b"}, true},
		{[]string{"10a", "2a"}, true},
		{[]string{"2", "~1"}, true},
		{[]string{"2", "-1"}, true},
		{[]string{"2", "+1"}, true},
		{[]string{"2", " 1"}, true},
		{[]string{"2", "1 "}, true},
		{[]string{"2", "/1"}, true}, // the bytes beside the digits
		{[]string{"2", ":1"}, true},
		{[]string{"/", "0", ":"}, true},
		{[]string{":", "/"}, false},
		{most, true},
		{append(slices.Clone(most), "a"), false},
		{append(slices.Clone(most), "257"), false},
		{append(slices.Clone(most[1:]), "a"), true},
	} {
		b := New()
		x, _ := b.Var(1, false, api.Any)
		want := api.ErrLabels
		if c.ok {
			want = api.OK
		}
		args := slices.Repeat([]int{x}, len(c.labels))
		r, e := b.Record(c.labels, args...)
		o, f := b.Open(1, c.labels, args...)
		if e != want || f != want || want != api.OK && (r != 0 || o != 0) {
			t.Errorf("labels %.99q: %d, %d, %d, %d; want %d", c.labels, r, e, o, f, want)
		}
		if want == api.OK {
			if told, _ := b.Look(r); !slices.Equal(told.Labels, c.labels) {
				t.Errorf("labels %.99q: %.99q", c.labels, told.Labels)
			}
			if told, _ := b.Look(o); !slices.Equal(told.Labels, c.labels) {
				t.Errorf("labels %.99q: %.99q", c.labels, told.Labels)
			}
		}
	}
}

// Labels that are not as many as types.
func TestLabelsCount(t *testing.T) {
	b := New()
	x, _ := b.Var(1, false, api.Any)
	for labels := range 4 {
		for args := range 4 {
			want := api.ErrLabels
			if labels == args {
				want = api.OK
			}
			l, a := numbers(labels), slices.Repeat([]int{x}, args)
			if _, e := b.Record(l, a...); e != want {
				t.Errorf("Record of %d labels and %d types: %d", labels, args, e)
			}
			if _, e := b.Open(1, l, a...); e != want {
				t.Errorf("Open of %d labels and %d types: %d", labels, args, e)
			}
		}
	}
}

// A type's size: MaxSize and one more, of each maker.
func TestSizes(t *testing.T) {
	d := newDesk(t)
	d.con("many", 3, api.If)
	check := func(what string, most, more func() (int, api.Errno)) {
		t.Helper()
		if n, e := most(); e != api.OK || d.b.left(api.MaxSize, n) != 0 {
			t.Errorf("%s of MaxSize: %d, %d left", what, e, d.b.left(api.MaxSize, n))
		}
		before := len(photo(d.b))
		if n, e := more(); n != 0 || e != api.ErrLong {
			t.Errorf("%s of one more: %d, %d", what, n, e)
		}
		if len(photo(d.b)) != before {
			t.Errorf("%s of one more has made types", what)
		}
	}
	x := d.v("x", 1, false, api.Any)
	most := d.deep(api.MaxSize-1, "x")
	short, shorter := d.deep(api.MaxSize-2, "x"), d.deep(api.MaxSize-3, "x")
	check("Apply", func() (int, api.Errno) { return d.b.Apply(d.cons["list"], short) }, func() (int, api.Errno) { return d.b.Apply(d.cons["list"], most) })
	check("Arrow", func() (int, api.Errno) { return d.b.Arrow(shorter, x) }, func() (int, api.Errno) { return d.b.Arrow(short, x) })
	check("Arrow", func() (int, api.Errno) { return d.b.Arrow(x, shorter) }, func() (int, api.Errno) { return d.b.Arrow(x, short) })
	ab := []string{"a", "b"}
	check("Record", func() (int, api.Errno) { return d.b.Record(ab, x, shorter) }, func() (int, api.Errno) { return d.b.Record(ab, x, short) })
	check("Open", func() (int, api.Errno) { return d.b.Open(1, ab, shorter, x) }, func() (int, api.Errno) { return d.b.Open(1, ab, short, x) })
	half, one, two := d.deep(1022, "x"), d.deep(0, "x"), d.deep(1, "x")
	check("Apply", func() (int, api.Errno) { return d.b.Apply(d.cons["many"], half, half, one) }, func() (int, api.Errno) { return d.b.Apply(d.cons["many"], half, half, two) })
}

// A type's size is that of what is written out, however its parts are shared, with the fields of open variables.
func TestSizeWrittenOut(t *testing.T) {
	d := newDesk(t)
	d.vars("x0")
	size := 1
	for i := range 10 {
		d.is(fmt.Sprint("x", i+1), fmt.Sprintf("x%d * x%d", i, i))
		size += size + 1
	}
	if size != 2047 {
		t.Fatal(size)
	}
	d.ty("x10 list")
	if n, e := d.b.Arrow(d.types["x10"], d.types["x0"]); n != 0 || e != api.ErrLong {
		t.Errorf("Arrow: %d, %d", n, e)
	}
	d.open("r0", 1, "{a : x0}")
	for i := range 9 {
		d.open(fmt.Sprint("r", i+1), 1, fmt.Sprintf("{a : r%d, b : r%d}", i, i))
	}
	if left := d.b.left(api.MaxSize, d.types["r9"]); left != api.MaxSize-(3*512-1) {
		t.Errorf("an open variable's size: %d left", left)
	}
	if n, e := d.b.Arrow(d.types["r9"], d.types["r9"]); n != 0 || e != api.ErrLong {
		t.Errorf("Arrow of open ones: %d, %d", n, e)
	}
}

// P7.1: as many types as there may be, and one more; ErrLong is ahead of it; what makes no type goes on.
func TestMaxTypes(t *testing.T) {
	d := newDesk(t)
	d.vars("x y z")
	x := d.types["x"]
	i := d.ty("int")
	n := d.v("n", 1, true, api.Num)
	d.huge("h", "v")
	s := d.scheme("x", "x -> y")
	id := d.scheme("z", "z")
	for have := len(d.b.cells); have < api.MaxTypes; have++ {
		if _, e := d.b.Var(1, false, api.Any); e != api.OK {
			t.Fatalf("Var, where there are %d types: %d", have, e)
		}
	}
	if _, ok := d.b.Look(api.MaxTypes); ok {
		t.Error("too many types")
	}
	check := func(what string, n int, e, want api.Errno) {
		t.Helper()
		if n != 0 || e != want || len(d.b.cells) != api.MaxTypes {
			t.Errorf("%s: %d, %d; want 0, %d", what, n, e, want)
		}
	}
	no, e := d.b.Var(1, false, api.Any)
	check("Var", no, e, api.ErrMany)
	no, e = d.b.Var(-1, false, api.Any)
	check("Var of a wrong level", no, e, api.ErrArg)
	no, e = d.b.Rigid(1, "'a")
	check("Rigid", no, e, api.ErrMany)
	no, e = d.b.Apply(api.ConInt)
	check("Apply", no, e, api.ErrMany)
	no, e = d.b.Apply(api.ConRef, d.types["h"])
	check("Apply to a too large one", no, e, api.ErrLong)
	no, e = d.b.Arrow(x, x)
	check("Arrow", no, e, api.ErrMany)
	no, e = d.b.Record(nil)
	check("Record", no, e, api.ErrMany)
	no, e = d.b.Open(1, nil)
	check("Open", no, e, api.ErrMany)
	no, vars, e := d.b.Instance(s, 1)
	check("Instance", no, e, api.ErrMany)
	no, vars, e = d.b.Instance(id, 1)
	check("Instance of a variable", no, e, api.ErrMany)
	if len(vars) != 0 {
		t.Error("Instance tells variables with an error")
	}
	no, e = d.b.Put(s, i)
	check("Put", no, e, api.ErrMany)
	no, e = d.b.Put(s, d.types["h"])
	check("Put of a too large one", no, e, api.ErrLong)
	if !d.b.Covers(s, api.Scheme{Type: s.Type}) || d.b.Covers(api.Scheme{Type: i}, s) || len(d.b.cells) != api.MaxTypes {
		t.Error("Covers in a full book")
	}
	if e := d.b.Settle(n); e != api.OK || d.text(n) != "int" {
		t.Errorf("Settle in a full book: %d", e)
	}
	if e := d.b.Unify(x, i); e != api.OK || d.text(s.Type) != "int -> 'a" {
		t.Errorf("Unify in a full book: %d", e)
	}
}

// P7.4: with room for just what is made.
func TestRoom(t *testing.T) {
	d := newDesk(t)
	d.vars("x y")
	s := d.scheme("x y", "(x -> y) list")
	big, id, none := d.scheme("x", "x list"), d.scheme("x", "x"), d.scheme("x", "y")
	h := d.deep(api.MaxSize-1, "x")
	i := d.ty("int")
	for len(d.b.cells) < api.MaxTypes-3 {
		_, e := d.b.Var(1, false, api.Any)
		d.ok(e)
	}
	if n, vars, e := d.b.Instance(s, 1); n != 0 || len(vars) != 0 || e != api.ErrMany || len(d.b.cells) != api.MaxTypes-3 {
		t.Errorf("Instance of four with room for three: %d, %v, %d", n, vars, e)
	}
	if n, e := d.b.Put(big, h); n != 0 || e != api.ErrLong {
		t.Errorf("Put of a type that becomes too large: %d, %d", n, e)
	}
	if n, e := d.b.Put(s, i, i); e != api.OK || d.text(n) != "(int -> int) list" {
		t.Errorf("Put of two with room for three: %d", e)
	}
	if n, e := d.b.Put(s, i, i); n != 0 || e != api.ErrMany || len(d.b.cells) != api.MaxTypes-1 {
		t.Errorf("Put of two with room for one: %d, %d", n, e)
	}
	if n, vars, e := d.b.Instance(big, 1); n != 0 || len(vars) != 0 || e != api.ErrMany || len(d.b.cells) != api.MaxTypes-1 {
		t.Errorf("Instance of two with room for one: %d, %v, %d", n, vars, e)
	}
	if n, e := d.b.Put(big, i); e != api.OK || d.text(n) != "int list" || len(d.b.cells) != api.MaxTypes {
		t.Errorf("Put of one with room for one: %d", e)
	}
	d.b.forget(api.MaxTypes - 1)
	if n, vars, e := d.b.Instance(id, 1); e != api.OK || len(vars) != 1 || n != vars[0] || len(d.b.cells) != api.MaxTypes {
		t.Errorf("Instance of one with room for one: %d, %v, %d", n, vars, e)
	}
	if n, e := d.b.Put(big, h); n != 0 || e != api.ErrLong {
		t.Errorf("Put of a type that becomes too large, where there is no room: %d, %d", n, e)
	}
	if n, e := d.b.Replace(s.Type, d.cons["list"], none); e != api.OK || d.text(n) != "'a" {
		t.Errorf("Replace without new types: %d", e)
	}
}

// P7.1: as many constructors as there may be, and one more.
func TestMaxConstructors(t *testing.T) {
	b := New()
	for con := 7; con < api.MaxTypes; con++ {
		if n, e := b.Con("c", 0, api.If); n != con || e != api.OK {
			t.Fatalf("Con: %d, %d; want %d", n, e, con)
		}
	}
	if n, e := b.Con("c", 0, api.If); n != 0 || e != api.ErrMany {
		t.Errorf("Con: %d, %d", n, e)
	}
	if n, e := b.Con("c", -1, api.If); n != 0 || e != api.ErrArg {
		t.Errorf("Con of a wrong number of arguments: %d, %d", n, e)
	}
	if _, _, _, ok := b.Named(api.MaxTypes); ok {
		t.Error("too many constructors")
	}
	if n, e := b.Apply(api.MaxTypes - 1); e != api.OK {
		t.Errorf("Apply of the last one: %d, %d", n, e)
	}
}
