package types

import (
	"fmt"
	"reflect"
	"slices"
	"strings"
	"testing"

	"kiln/api"
)

// P7.4: Generalize.
func TestGeneralize(t *testing.T) {
	d := newDesk(t)
	for i := range 5 {
		d.v(fmt.Sprint("x", i), i, i == 3, api.Any)
	}
	d.rigid("'a", 2)
	d.rigid("'b", 3)
	d.is("all", "x4 -> x0 * (x3 list * x2 * x4) * 'a * (x1 -> 'b)")
	for level, want := range []string{"x4 x3 x2 'a x1 'b", "x4 x3 x2 'a 'b", "x4 x3 'b", "x4", ""} {
		s, e := d.b.Generalize(d.types["all"], level)
		if e != api.OK || !slices.Equal(s.Vars, d.scheme(want, "int").Vars) || d.b.now(s.Type) != d.b.now(d.types["all"]) {
			t.Errorf("Generalize by %d: %v, %d", level, s, e)
		}
	}
	if s, e := d.b.Generalize(d.types["all"], api.MaxLevel); e != api.OK || len(s.Vars) != 0 {
		t.Errorf("Generalize by the greatest level: %v, %d", s, e)
	}
	d.unify("x4", "x1")
	if s, e := d.b.Generalize(d.ty("x4 -> x3"), 1); e != api.OK || !slices.Equal(s.Vars, []int{d.types["x3"]}) {
		t.Errorf("Generalize: %v, %d", s, e)
	}
}

// P7.4: what Generalize refuses: the first of those of a level above.
func TestGeneralizeWrong(t *testing.T) {
	d := newDesk(t)
	d.v("x", 2, false, api.Any)
	d.v("n", 2, false, api.Num)
	d.v("m", 3, false, api.Text)
	d.open("r", 2, "{a : x}")
	d.open("s", 3, "{a : n}")
	d.huge("h", "v")
	before := photo(d.b)
	for _, c := range []struct {
		ty    string
		level int
		want  api.Errno
	}{
		{"x -> n", 1, api.ErrClass},
		{"x -> n", 2, api.OK},
		{"x -> m", 2, api.ErrClass},
		{"x -> r", 1, api.ErrFields},
		{"x -> r", 2, api.OK},
		{"r -> n", 1, api.ErrFields},
		{"n -> r", 1, api.ErrClass},
		{"s -> x", 1, api.ErrFields},
		{"m -> s", 2, api.ErrClass},
		{"s -> m", 2, api.ErrFields},
		{"s -> m", 3, api.OK},
		{"n * s * m", 2, api.ErrFields},
		{"n * m * s", 2, api.ErrClass},
		{"h", 0, api.ErrLong},
		{"h", -1, api.ErrArg},
		{"n", -1, api.ErrArg},
		{"n", api.MaxLevel + 1, api.ErrArg},
		{"n", api.MaxLevel, api.OK},
	} {
		s, e := d.b.Generalize(d.ty(c.ty), c.level)
		if e != c.want || e != api.OK && (len(s.Vars) != 0 || s.Type != 0) {
			t.Errorf("Generalize(%s, %d): %v, %d; want %d", c.ty, c.level, s, e, c.want)
		}
	}
	for _, no := range append(noType, len(d.b.cells)) {
		if s, e := d.b.Generalize(no, -1); len(s.Vars) != 0 || s.Type != 0 || e != api.ErrType {
			t.Errorf("Generalize(%d): %v, %d", no, s, e)
		}
	}
	if !reflect.DeepEqual(photo(d.b)[:len(before)], before) {
		t.Error("something has changed")
	}
}

// instance is an instance of a scheme, and its variables' names.
func (d *desk) instance(vars, ty string, level int, names string) {
	d.t.Helper()
	t, l, e := d.b.Instance(d.scheme(vars, ty), level)
	d.ok(e)
	all := strings.Fields(names)
	if len(l) != len(all) || len(l) != len(strings.Fields(vars)) {
		d.t.Fatalf("Instance: %d variables", len(l))
	}
	for i, v := range l {
		d.types[all[i]] = v
	}
	d.types["instance"] = t
}

// P7.4: Instance: new variables of the level, with equality where that had it, and nothing else.
func TestInstance(t *testing.T) {
	d := newDesk(t)
	d.vars("x y z")
	d.v("e", 4, true, api.Any)
	d.v("n", 1, false, api.Num)
	d.v("m", 1, true, api.Text)
	d.rigid("'a", 1)
	d.rigid("''b", 1)
	d.open("r", 1, "{a : x}")
	before := photo(d.b)
	d.instance("x e n m 'a ''b r", "x * e * n * m * 'a * ''b * r * y * x", 7, "i0 i1 i2 i3 i4 i5 i6")
	for i, equal := range []bool{false, true, false, true, false, true, false} {
		d.tells(fmt.Sprint("i", i), api.Type{Kind: api.YVar, Level: 7, Equal: equal})
	}
	d.says("instance", "'a * ''b * 'c * ''d * 'e * ''f * 'g * 'h * 'a")
	d.has("instance", "i0 i1 i2 i3 i4 i5 i6 y")
	for i := range before {
		if told, _ := d.b.Look(i); !sameType(told, before[i].Type) {
			t.Errorf("type %d has changed", i)
		}
	}
}

// P7.4: what stands where in an instance.
func TestInstanceParts(t *testing.T) {
	d := newDesk(t)
	d.vars("x y z")
	d.open("r", 1, "{a : x, b : y}")
	for _, c := range []struct{ vars, ty, has string }{
		{"", "x -> y", "x y"},
		{"x", "x -> y", "i y"},
		{"y", "x -> y", "x i"},
		{"x y", "x -> y", "i k"},
		{"y x", "x -> y", "k i"},
		{"x", "x", "i"},
		{"x", "int", ""},
		{"z", "x", "x"},
		{"x", "(x * y) list -> {a : x, b : z ref}", "i y z"},
		{"x", "r", "r x y"}, // an open one stays, with its fields
		{"x y", "r -> x", "r x y i"},
		{"r", "r", "i"},
		{"r x", "r -> x -> y", "i k y"},
		{"x", "(r, x) pair", "r x y i"},
	} {
		names := "i k"
		d.instance(c.vars, c.ty, 2, names[:max(0, 2*len(strings.Fields(c.vars))-1)])
		d.has("instance", c.has)
	}
	d.instance("x y", "(x, y list) pair -> {a : x -> y, b : int ref}", 0, "i k")
	d.says("instance", "('a, 'b list) pair -> {a : 'a -> 'b, b : int ref}")
	d.instance("x y", "x", 0, "i k") // one for each, wherever they stand
	d.tells("k", api.Type{Kind: api.YVar})
	d.unify("x", "z")
	d.unify("y", "z list")
	d.instance("z", "x * y", 0, "i")
	d.says("instance", "'a * 'a list")
	d.has("instance", "i")
	d.instance("x", "x * y", 0, "i")
	d.has("instance", "i")
}

// P7.4: a scheme's variables are types that are variables now, each once.
func TestSchemesWrong(t *testing.T) {
	d := newDesk(t)
	d.vars("x y z w")
	d.unify("x", "y")
	d.unify("z", "int")
	d.is("i", "int")
	d.vars("v")
	good := d.scheme("w", "w -> v")
	schemes := []api.Scheme{
		d.scheme("x x", "x"), d.scheme("x y", "x"), d.scheme("v x w y", "x"), d.scheme("z", "x"), d.scheme("i", "x"), d.scheme("w i", "x"),
		{Vars: []int{d.types["w"], d.types["v"], d.types["w"]}, Type: d.types["x"]},
	}
	for _, no := range append(noType, 1000) {
		schemes = append(schemes, api.Scheme{Type: no}, api.Scheme{Vars: []int{d.types["w"], no}, Type: d.types["w"]}, api.Scheme{Vars: []int{no}, Type: no})
	}
	before := photo(d.b)
	for _, s := range schemes {
		if n, l, e := d.b.Instance(s, -1); n != 0 || len(l) != 0 || e != api.ErrType { // ahead of the level
			t.Errorf("Instance(%v): %d, %v, %d", s, n, l, e)
		}
		if n, e := d.b.Put(s); n != 0 || e != api.ErrType { // ahead of the number of types
			t.Errorf("Put(%v): %d, %d", s, n, e)
		}
		if n, e := d.b.Replace(d.types["x"], api.ConInt, s); n != 0 || e != api.ErrType {
			t.Errorf("Replace by %v: %d, %d", s, n, e)
		}
		if d.b.Covers(s, good) || d.b.Covers(good, s) || d.b.Covers(s, s) {
			t.Errorf("Covers of %v: true", s)
		}
	}
	if !reflect.DeepEqual(photo(d.b), before) {
		t.Error("something has changed")
	}
}

// P7.4: what else Instance refuses.
func TestInstanceWrong(t *testing.T) {
	d := newDesk(t)
	d.huge("h", "v")
	d.vars("x k")
	d.types["o"], _ = d.b.Open(1, numbers(100), slices.Repeat([]int{d.types["k"]}, 100)...)
	d.unify("k", "v")
	before := photo(d.b)
	for _, c := range []struct {
		vars, ty string
		level    int
		want     api.Errno
	}{
		{"x", "x", -1, api.ErrArg},
		{"x", "x", api.MaxLevel + 1, api.ErrArg},
		{"", "x", -1, api.ErrArg},
		{"x", "h", -1, api.ErrArg},
		{"x", "h", 0, api.ErrLong},
		{"", "h", 0, api.ErrLong},
		{"o", "o", 0, api.ErrLong},
		{"o", "x", 0, api.ErrLong},
		{"x", "x", api.MaxLevel, api.OK},
	} {
		n, l, e := d.b.Instance(d.scheme(c.vars, c.ty), c.level)
		if e != c.want || e != api.OK && (n != 0 || len(l) != 0) {
			t.Errorf("Instance(%s, %d): %d, %v, %d; want %d", c.ty, c.level, n, l, e, c.want)
		}
		if e != api.OK && !reflect.DeepEqual(photo(d.b), before) {
			t.Errorf("Instance(%s, %d): something has changed", c.ty, c.level)
		}
	}
}

// P7.4: Put.
func TestPut(t *testing.T) {
	for _, c := range []struct{ vars, ty, args, want string }{
		{"", "x -> y", "", "'a -> 'b"},
		{"x", "x -> y", "int", "int -> 'a"},
		{"x y", "x -> y", "y; x", "'a -> 'b"},
		{"x y", "x -> y -> z", "z; z list", "'a -> 'a list -> 'a"},
		{"y x", "x -> y", "int; real", "real -> int"},
		{"x", "x", "int list", "int list"},
		{"x", "int", "int list", "int"},
		{"x", "x * x", "x * x", "('a * 'a) * ('a * 'a)"}, // what is put is not turned
		{"x y", "x * y", "y; int", "'a * int"},
		{"x", "{a : x list, b : {c : x -> x}}", "unit", "{a : unit list, b : {c : unit -> unit}}"},
		{"x", "(r, x) pair", "int", "({a : 'b, b : 'c, .. 'a}, int) pair"},
		{"r", "r -> x", "int", "int -> 'a"},
		{"'r", "'r -> 'r", "int", "int -> int"},
		{"n", "n -> n", "unit", "unit -> unit"},
		{"e", "e -> e", "real", "real -> real"},
		{"x", "x -> s", "int", "int -> 'a list"},
	} {
		d := newDesk(t)
		d.vars("x y z w u")
		d.open("r", 1, "{a : x, b : y}")
		d.rigid("'r", 1)
		d.v("n", 1, false, api.Num)
		d.v("e", 1, true, api.Any)
		d.vars("s")
		d.unify("s", "u list")
		var args []int
		for _, s := range strings.Split(c.args, ";") {
			if s != "" {
				args = append(args, d.ty(s))
			}
		}
		s := d.scheme(c.vars, c.ty)
		before := photo(d.b)
		n, e := d.b.Put(s, args...)
		if e != api.OK || d.text(n) != c.want {
			t.Errorf("Put(%s, %s, %s): %s, %d; want %s", c.vars, c.ty, c.args, d.text(n), e, c.want)
		}
		if !reflect.DeepEqual(photo(d.b)[:len(before)], before) {
			t.Error("something has changed")
		}
	}
}

// P7.4: Put keeps open variables that are none of the scheme's, the very same ones.
func TestPutOpen(t *testing.T) {
	d := newDesk(t)
	d.vars("x y")
	d.open("r", 1, "{a : x, b : y}")
	n, e := d.b.Put(d.scheme("x", "r -> x"), d.ty("int"))
	d.ok(e)
	if l := d.b.Free(n); !slices.Equal(l, []int{d.types["r"], d.types["x"], d.types["y"]}) {
		t.Errorf("Free: %v", l)
	}
	d.unify("r", "{a : real, b : unit}")
	if s := d.text(n); s != "{a : real, b : unit} -> int" {
		t.Error(s)
	}
}

// P7.4: what Put refuses, in order, and how large its answer may be.
func TestPutWrong(t *testing.T) {
	d := newDesk(t)
	d.huge("h", "v")
	d.vars("x y k")
	d.types["o"], _ = d.b.Open(1, numbers(100), slices.Repeat([]int{d.types["k"]}, 100)...)
	d.unify("k", "v")
	x, h, i := d.types["x"], d.types["h"], d.ty("int")
	half, more := d.deep(1022, "int"), d.deep(1023, "int")
	before := photo(d.b)
	for _, c := range []struct {
		vars, ty string
		args     []int
		want     api.Errno
	}{
		{"x", "x", nil, api.ErrArity},
		{"x", "x", []int{i, i}, api.ErrArity},
		{"", "x", []int{i}, api.ErrArity},
		{"x", "x", []int{-1}, api.ErrType},
		{"x", "x", []int{h, 1 << 40}, api.ErrType},
		{"x", "h", []int{h, h}, api.ErrArity},
		{"x", "h", []int{i}, api.ErrLong},
		{"x", "int", []int{h}, api.ErrLong},
		{"o", "int", []int{i}, api.ErrLong},
		{"x", "x -> x", []int{more}, api.ErrLong},
		{"x y", "x -> y list", []int{half, more}, api.ErrLong},
		{"x y", "x -> y list", []int{half, half}, api.OK},
		{"x y", "x -> y list", []int{half, x}, api.OK},
		{"x", "x list -> x", []int{half}, api.OK},
	} {
		n, e := d.b.Put(d.scheme(c.vars, c.ty), c.args...)
		if e != c.want || e != api.OK && n != 0 {
			t.Errorf("Put(%s, %s, %v): %d, %d; want %d", c.vars, c.ty, c.args, n, e, c.want)
		}
	}
	if !reflect.DeepEqual(photo(d.b)[:len(before)], before) {
		t.Error("something has changed")
	}
}

// P7.4: an answer that would be too large leaves no types behind.
func TestPutLeavesNothing(t *testing.T) {
	d := newDesk(t)
	d.vars("x")
	s := d.scheme("x", "(x list * x list) list")
	big := d.deep(1500, "int")
	before := photo(d.b)
	if n, e := d.b.Put(s, big); n != 0 || e != api.ErrLong {
		t.Errorf("Put: %d, %d", n, e)
	}
	if n, e := d.b.Replace(big, d.cons["list"], s); n != 0 || e != api.ErrLong {
		t.Errorf("Replace: %d, %d", n, e)
	}
	if !reflect.DeepEqual(photo(d.b), before) {
		t.Error("something has changed")
	}
}

// P7.4: Replace.
func TestReplace(t *testing.T) {
	for _, c := range []struct{ ty, con, vars, by, want string }{
		{"int", "int", "", "real", "real"},
		{"int", "real", "", "unit", "int"},
		{"int -> int * int list", "int", "", "real ref", "real ref -> real ref * real ref list"},
		{"x list", "list", "y", "y -> y", "'a -> 'a"},
		{"x list list", "list", "y", "y -> y", "('a -> 'a) -> 'a -> 'a"},
		{"x list list", "list", "y", "y list ref", "'a list ref list ref"}, // what is within by stays
		{"int list", "int", "", "int list", "int list list"},
		{"x list", "list", "x", "x * x", "'a * 'a"},
		{"x list * y", "list", "y", "(x, y) pair", "('a, 'a) pair * 'b"},
		{"(int, real) pair", "pair", "x y", "y -> x", "real -> int"},
		{"(int, real) pair", "pair", "y x", "y -> x", "int -> real"},
		{"((int, real) pair, (x, y) pair) pair", "pair", "x y", "y", "'a"},
		{"((int, real) pair, (x, y) pair) pair", "pair", "x y", "x * x", "(int * int) * (int * int)"},
		{"((int, real) pair, (x, y) pair) pair", "pair", "x y", "unit", "unit"},
		{"{a : int, b : {c : int list}} -> int ref", "int", "", "x", "{a : 'a, b : {c : 'a list}} -> 'a ref"},
		{"int list list", "list", "x", "x", "int"},
		{"r list -> int", "int", "", "real", "{a : int, .. 'a} list -> real"}, // an open one stays
		{"x list", "list", "r", "r -> r", "'a -> 'a"},
		{"x list", "list", "y", "r * y", "{a : int, .. 'a} * 'b"},
		{"x list", "list", "n", "n * n", "'a * 'a"},
		{"x list", "list", "'r", "'r * 'r", "'a * 'a"},
		{"w", "int", "", "real", "real list"},
	} {
		d := newDesk(t)
		d.vars("x y z w")
		d.open("r", 1, "{a : int}")
		d.rigid("'r", 1)
		d.v("n", 1, false, api.Num)
		d.unify("w", "int list")
		ty, by := d.ty(c.ty), d.scheme(c.vars, c.by)
		before := photo(d.b)
		n, e := d.b.Replace(ty, d.cons[c.con], by)
		d.ok(e)
		if s := d.text(n); s != c.want {
			t.Errorf("Replace(%s, %s, %s): %s; want %s", c.ty, c.con, c.by, s, c.want)
		}
		if !reflect.DeepEqual(photo(d.b)[:len(before)], before) {
			t.Error("something has changed")
		}
	}
}

// P7.4: what Replace refuses, in order.
func TestReplaceWrong(t *testing.T) {
	d := newDesk(t)
	d.huge("h", "v")
	d.vars("x y k")
	d.types["o"], _ = d.b.Open(1, numbers(100), slices.Repeat([]int{d.types["k"]}, 100)...)
	d.unify("k", "v")
	x, h := d.types["x"], d.types["h"]
	list, pair := d.cons["list"], d.cons["pair"]
	most := d.deep(api.MaxSize-1, "x")
	before := photo(d.b)
	for _, c := range []struct {
		t, con int
		vars   string
		by     string
		want   api.Errno
	}{
		{-1, list, "x", "x", api.ErrType},
		{1 << 40, list, "", "x", api.ErrType},
		{x, -1, "x", "x", api.ErrType},
		{x, len(d.b.cons), "", "x", api.ErrType},
		{h, 1 << 40, "x", "x", api.ErrType},
		{x, list, "", "x", api.ErrArity},
		{x, list, "x y", "x", api.ErrArity},
		{h, list, "x y", "h", api.ErrArity},
		{x, pair, "x", "x", api.ErrArity},
		{x, api.ConInt, "x", "x", api.ErrArity},
		{h, list, "x", "x", api.ErrLong},
		{x, list, "x", "h", api.ErrLong},
		{x, list, "o", "x", api.ErrLong},
		{most, list, "x", "x * x", api.ErrLong},
		{most, list, "x", "x list list", api.ErrLong},
		{most, list, "x", "x ref", api.OK},
		{most, list, "x", "x", api.OK},
		{most, list, "x", "int", api.OK},
	} {
		n, e := d.b.Replace(c.t, c.con, d.scheme(c.vars, c.by))
		if e != c.want || e != api.OK && n != 0 {
			t.Errorf("Replace(%d, %d, %s): %d, %d; want %d", c.t, c.con, c.by, n, e, c.want)
		}
	}
	if !reflect.DeepEqual(photo(d.b)[:len(before)], before) {
		t.Error("something has changed")
	}
}

// P7.4: what Replace drops plays no part, however large it would become; what would be too large is told without being made.
func TestReplaceLarge(t *testing.T) {
	d := newDesk(t)
	d.vars("x y")
	pair, list := d.cons["pair"], d.cons["list"]
	n := d.types["x"]
	for range 600 {
		var e api.Errno
		n, e = d.b.Apply(pair, d.types["y"], n)
		d.ok(e)
	}
	if m, e := d.b.Replace(n, pair, d.scheme("x y", "x list")); e != api.OK || d.text(m) != "'a list" {
		t.Errorf("Replace: %d", e)
	}
	if m, e := d.b.Replace(n, pair, d.scheme("x y", "y")); e != api.OK || m != d.types["x"] {
		t.Errorf("Replace: %d, %d", m, e)
	}
	refuses := func(t, con int, by api.Scheme) {
		d.t.Helper()
		before := len(d.b.cells)
		if m, e := d.b.Replace(t, con, by); m != 0 || e != api.ErrLong || len(d.b.cells) != before {
			d.t.Errorf("Replace: %d, %d", m, e)
		}
	}
	refuses(n, pair, d.scheme("x y", "(y * y) * (y * y)"))
	deep := d.deep(2000, "x")
	refuses(deep, list, api.Scheme{Vars: []int{d.types["x"]}, Type: deep})
	if have := cap(d.b.cells); have > 20000 {
		t.Errorf("room for %d types was needed", have)
	}
}

// covers fails if the first scheme does not cover the second one, or does, or something has changed.
func (d *desk) covers(vars, s, others, t string, want bool) {
	d.t.Helper()
	x, y := d.scheme(vars, s), d.scheme(others, t)
	before := photo(d.b)
	if got := d.b.Covers(x, y); got != want {
		d.t.Errorf("Covers(%s. %s, %s. %s): %t", vars, s, others, t, got)
	}
	if !reflect.DeepEqual(photo(d.b), before) {
		d.t.Errorf("Covers(%s. %s, %s. %s): something has changed", vars, s, others, t)
	}
}

// P7.4: Covers.
func TestCovers(t *testing.T) {
	d := newDesk(t)
	d.vars("x y z w")
	d.v("e", 1, true, api.Any)
	d.v("f", 1, true, api.Any)
	d.v("n", 1, false, api.Num)
	d.v("outer", 0, false, api.Any)
	d.rigid("'a", 1)
	d.rigid("''a", 1)
	d.open("r", 1, "{a : x}")
	d.covers("", "int", "", "int", true)
	d.covers("", "int", "", "real", false)
	d.covers("x", "x -> x", "", "int -> int", true)
	d.covers("x", "x -> x", "", "int -> real", false)
	d.covers("", "int -> int", "x", "x -> x", false)
	d.covers("x", "x -> x", "y", "y -> y", true)
	d.covers("x", "x -> x", "x", "x -> x", true)
	d.covers("x y", "x -> y", "z", "z -> z", true)
	d.covers("z", "z -> z", "x y", "x -> y", false)
	d.covers("z", "z -> z", "z w", "z -> w", false)
	d.covers("x y", "x -> y", "z w", "w -> z", true)
	d.covers("x y", "x * y", "z", "z list * (z -> z)", true)
	d.covers("x", "x", "z", "z list", true)
	d.covers("x", "x list", "z", "z", false)
	d.covers("x", "int", "z", "int", true)
	// Equality.
	d.covers("x", "x -> x", "e", "e -> e", true)
	d.covers("e", "e -> e", "x", "x -> x", false)
	d.covers("e", "e -> e", "f", "f -> f", true)
	d.covers("e", "e -> e", "", "int -> int", true)
	d.covers("e", "e -> e", "", "real -> real", false)
	d.covers("e", "e", "f", "f list * int", true)
	d.covers("e", "e", "x", "x list", false)
	d.covers("e", "e", "x", "x ref", true)
	// Rigid ones.
	d.covers("'a", "'a -> 'a", "x", "x list -> x list", true)
	d.covers("''a", "''a -> ''a", "x", "x -> x", false)
	d.covers("''a", "''a -> ''a", "e", "e -> e", true)
	d.covers("e", "e -> e", "''a", "''a -> ''a", true)
	d.covers("e", "e -> e", "'a", "'a -> 'a", false)
	d.covers("x", "x -> x", "", "'a -> 'a", true)
	d.covers("", "'a -> 'a", "x", "x -> x", false)
	d.covers("", "'a -> 'a", "'a", "'a -> 'a", true)
	// Variables of neither, which may be what the other asks for, of a level that allows it.
	d.covers("", "x", "", "int", true)
	d.covers("", "x -> x", "", "int -> real", false)
	d.covers("x", "x -> y", "", "int -> real", true)
	d.covers("", "y -> y", "z", "z -> z", true)
	d.covers("", "outer -> outer", "z", "z -> z", false)
	d.covers("", "outer -> outer", "", "int -> int", true)
	d.covers("x", "x -> outer", "z", "z -> outer", true)
	d.covers("x", "x -> outer", "z", "z -> z", false)
	d.covers("x", "x -> outer", "z", "z list -> int", true)
	d.covers("", "int", "", "x", true)
	d.covers("x", "x list", "", "x", true)
	d.covers("", "x list", "", "x", false)
	// Classes, open ones.
	d.covers("n", "n -> n", "", "unit -> unit", true)
	d.covers("", "n -> n", "", "unit -> unit", false)
	d.covers("", "n -> n", "", "real -> real", true)
	d.covers("", "r", "", "{a : int, b : real}", true)
	d.covers("", "r", "", "{b : real}", false)
	d.covers("r", "r", "", "int", true)
	d.covers("y", "y", "r", "r -> r", true)
	d.covers("", "r", "r", "r", true)
	d.covers("", "r", "z", "z", false)
	d.covers("r", "r", "r", "r", true)
}

// P7.4: of what would be an error false, also if the types are one.
func TestCoversWrong(t *testing.T) {
	d := newDesk(t)
	d.huge("h", "v")
	d.vars("x y k")
	d.types["o"], _ = d.b.Open(1, numbers(100), slices.Repeat([]int{d.types["k"]}, 100)...)
	d.unify("k", "v")
	d.covers("", "h", "", "h", false)
	d.covers("x", "x", "", "h", false)
	d.covers("", "h", "", "x", false)
	d.covers("o", "x", "", "x", false)
	d.covers("x", "x", "o", "int", false)
	d.types["half"] = d.deep(1023, "int")
	d.covers("x", "x -> x", "", "half -> y", false) // both would be too large
	d.covers("x y", "x -> y", "", "half -> y", true)
}
