package types

import (
	"reflect"
	"slices"
	"strings"
	"testing"

	"kiln/api"
)

// has fails if a type has other variables than these, by names with blanks between.
func (d *desk) has(ty, want string) {
	d.t.Helper()
	var l []int
	for _, s := range strings.Fields(want) {
		l = append(l, d.types[s])
	}
	if got := d.b.Free(d.ty(ty)); !slices.Equal(got, l) {
		d.t.Errorf("Free(%s): %v; want %v", ty, got, l)
	}
}

// P7.3: Free, in the order in which they first stand, each once.
func TestFree(t *testing.T) {
	d := newDesk(t)
	d.vars("x y z w")
	d.rigid("'a", 1)
	d.v("n", 3, true, api.Num)
	d.open("r", 1, "{a : y, b : x}")
	d.open("s", 1, "{a : r, c : z}")
	d.has("int", "")
	d.has("unit -> int list", "")
	d.has("x", "x")
	d.has("'a", "'a")
	d.has("x -> x", "x")
	d.has("y -> x -> y", "y x")
	d.has("(z * y) list -> {a : y, b : x, c : z}", "z y x")
	d.has("{2 : z, 10 : y, a : x}", "z y x")
	d.has("(n, 'a) pair * 'a * n", "n 'a")
	d.has("r", "r y x")
	d.has("x -> r", "x r y")
	d.has("r -> z -> x", "r y x z")
	d.has("s", "s r y x z")
	d.has("z * s * r", "z s r y x")
	d.unify("x", "int")
	d.unify("z", "w list")
	d.has("s", "s r y w")
	d.unify("r", "{a : y, b : int}")
	d.has("s -> y", "s y w")
}

// P7.3: of two variables that are one, one is told.
func TestFreeOne(t *testing.T) {
	d := newDesk(t)
	d.vars("x y z")
	d.unify("x", "y")
	l := d.b.Free(d.ty("x * z * y"))
	if len(l) != 2 || l[0] != d.types["x"] && l[0] != d.types["y"] || l[1] != d.types["z"] {
		t.Errorf("Free: %v", l)
	}
	for _, s := range []string{"x", "y"} {
		if m := d.b.Free(d.types[s]); !slices.Equal(m, l[:1]) {
			t.Errorf("Free(%s): %v; want %v", s, m, l[:1])
		}
	}
}

// P7.3: of no type, or a too large one, none; of one that is just not too large all.
func TestFreeNone(t *testing.T) {
	d := newDesk(t)
	d.huge("h", "v")
	d.vars("x y")
	for _, no := range append(noType, len(d.b.cells)) {
		if l := d.b.Free(no); len(l) != 0 {
			t.Errorf("Free(%d): %v", no, l)
		}
	}
	d.has("h", "")
	d.types["most"] = d.deep(api.MaxSize-1, "x")
	d.has("most", "x")
	d.unify("x", "y list")
	d.has("most", "")
}

// P7.3: Equal.
func TestEqual(t *testing.T) {
	d := newDesk(t)
	d.vars("x")
	d.v("n", 1, false, api.Num)
	d.v("e", 1, true, api.Any)
	d.v("f", 1, true, api.Text)
	d.rigid("'a", 1)
	d.rigid("''a", 1)
	d.rigid("'", 1)
	d.rigid("''", 1)
	d.types["nameless"] = d.rigid("", 1)
	d.open("r", 1, "{a : int}")
	d.open("s", 1, "{a : x ref}")
	d.v("g", 1, true, api.Any)
	d.unify("g", "s")
	before := photo(d.b)
	for s, want := range map[string]bool{
		"x": false, "n": false, "e": true, "f": true, "'a": false, "''a": true, "'": false, "''": true, "nameless": false, "r": false, "s": true,
		"int": true, "char": true, "string": true, "real": false, "exn": false, "no": false,
		"x ref": true, "real array": true, "(int -> int) ref": true, "x list": false, "e list": true, "e fun": false, "(e, int) pair": true, "(e, real) pair": false, "(real, e) pair": false, "(real, x) box": true,
		"e -> e": false, "unit": true, "{a : e}": true, "{a : e, b : x}": false, "{a : x, b : e}": false, "e * int * (e * s) list": true, "e * int * (e * r) list": false, "e * (int -> int) array": true,
	} {
		if got := d.b.Equal(d.ty(s)); got != want {
			t.Errorf("Equal(%s): %t", s, got)
		}
	}
	for _, no := range append(noType, len(d.b.cells)) {
		if d.b.Equal(no) {
			t.Errorf("Equal(%d): true", no)
		}
	}
	if !reflect.DeepEqual(photo(d.b)[:len(before)], before) {
		t.Error("Equal has turned something")
	}
}

// P7.3: Settle.
func TestSettle(t *testing.T) {
	d := newDesk(t)
	d.vars("x")
	d.v("n", 1, false, api.Num)
	d.v("m", 0, true, api.Text)
	d.v("k", 5, true, api.Num)
	d.v("other", 1, false, api.Num)
	d.v("e", 1, true, api.Any)
	d.rigid("'a", 1)
	d.open("r", 1, "{a : k}")
	d.is("all", "x -> n * (m list * n) * e * r * 'a")
	d.ok(d.b.Settle(d.types["x"]))
	d.says("all", "'b -> 'c# * (''d## list * 'c#) * ''e * {a : ''g#, .. 'f} * 'a")
	d.ok(d.b.Settle(d.types["all"]))
	d.says("all", "'b -> int * (int list * int) * ''c * {a : int, .. 'd} * 'a")
	d.tells("k", api.Type{Kind: api.YCon, Con: api.ConInt})
	d.tells("x", api.Type{Kind: api.YVar, Level: 1})
	d.tells("e", api.Type{Kind: api.YVar, Level: 1, Equal: true})
	d.tells("other", api.Type{Kind: api.YVar, Level: 1, Class: api.Num})
	d.unify("n", "int")
	d.refuses("m", "char", api.ErrUnify)
	d.vars("y")
	d.unify("y", "other")
	d.ok(d.b.Settle(d.types["y"]))
	d.says("other * y", "int * int")
}

// P7.3: what Settle refuses.
func TestSettleWrong(t *testing.T) {
	d := newDesk(t)
	d.v("n", 1, false, api.Num)
	d.vars("x")
	h, e := d.b.Record([]string{"a", "b"}, d.wide(100, "x"), d.types["n"])
	d.ok(e)
	d.ok(d.b.Unify(d.types["x"], d.wide(100, "int")))
	before := photo(d.b)
	if e := d.b.Settle(h); e != api.ErrLong {
		t.Errorf("Settle of a too large one: %d", e)
	}
	for _, no := range append(noType, len(d.b.cells)) {
		if e := d.b.Settle(no); e != api.ErrType {
			t.Errorf("Settle(%d): %d", no, e)
		}
	}
	if !reflect.DeepEqual(photo(d.b), before) {
		t.Error("something has changed")
	}
}
