package types

import (
	"fmt"
	"slices"
	"strings"
	"testing"

	"kiln/api"
)

// P7.5: each form, and where there are parentheses.
func TestText(t *testing.T) {
	d := newDesk(t)
	d.vars("x y")
	d.con("triple", 3, api.If)
	d.con("", 0, api.If)
	d.con("odd name\n", 1, api.If)
	for s, want := range map[string]string{
		"int":                     "int",
		"x":                       "'a",
		"x list":                  "'a list",
		"int list ref":            "int list ref",
		"(x, y) pair":             "('a, 'b) pair",
		"(int, x, y) triple":      "(int, 'a, 'b) triple",
		"(x, y) pair list":        "('a, 'b) pair list",
		"(x list, y) pair":        "('a list, 'b) pair",
		"unit":                    "unit",
		"unit list":               "unit list",
		"{a : x}":                 "{a : 'a}",
		"{1 : x}":                 "{1 : 'a}",
		"{2 : x}":                 "{2 : 'a}",
		"{a : x, b : y}":          "{a : 'a, b : 'b}",
		"{1 : x, 2 : y}":          "'a * 'b",
		"{1 : x, 3 : y}":          "{1 : 'a, 3 : 'b}",
		"{2 : x, 3 : y}":          "{2 : 'a, 3 : 'b}",
		"{1 : x, 2 : y, a : x}":   "{1 : 'a, 2 : 'b, a : 'a}",
		"{1 : x, 2 : y, 4 : x}":   "{1 : 'a, 2 : 'b, 4 : 'a}",
		"x * y * x":               "'a * 'b * 'a",
		"x -> y":                  "'a -> 'b",
		"x -> y -> x":             "'a -> 'b -> 'a",
		"(x -> y) -> x":           "('a -> 'b) -> 'a",
		"((x -> y) -> x) -> y":    "(('a -> 'b) -> 'a) -> 'b",
		"x * y -> x":              "'a * 'b -> 'a",
		"x -> y * x":              "'a -> 'b * 'a",
		"(x -> y) * x":            "('a -> 'b) * 'a",
		"x * (x -> y)":            "'a * ('a -> 'b)",
		"(x * y) * x":             "('a * 'b) * 'a",
		"x * (y * x)":             "'a * ('b * 'a)",
		"(x -> y) list":           "('a -> 'b) list",
		"(x * y) list":            "('a * 'b) list",
		"(x -> y, x * y) pair":    "(('a -> 'b), ('a * 'b)) pair",
		"(x list, unit) pair":     "('a list, unit) pair",
		"{a : x} list":            "{a : 'a} list",
		"{a : x} * {a : y}":       "{a : 'a} * {a : 'b}",
		"{a : x -> y, b : x * y}": "{a : 'a -> 'b, b : 'a * 'b}",
		"{a : x} -> {b : unit}":   "{a : 'a} -> {b : unit}",
		"unit * unit":             "unit * unit",
		"unit -> unit":            "unit -> unit",
		"(unit -> unit) * (int, {a : int -> int}) pair -> exn": "(unit -> unit) * (int, {a : int -> int}) pair -> exn",
		"x list * y ref list -> real array":                    "'a list * 'b ref list -> real array",
	} {
		d.says(s, want)
	}
	odd, e := d.b.Apply(d.cons["odd name\n"], d.types["x"])
	d.ok(e)
	if s := d.text(odd); s != "'a odd name\n" {
		t.Errorf("%q", s)
	}
	empty, e := d.b.Apply(d.cons[""])
	d.ok(e)
	if s := d.text(empty); s != "" {
		t.Errorf("%q", s)
	}
}

// P7.5: as a tuple ten labels and more.
func TestTextTuples(t *testing.T) {
	d := newDesk(t)
	d.is("i", "int")
	for n := 2; n <= 120; n++ {
		if s := d.text(d.wide(n, "i")); s != "int"+strings.Repeat(" * int", n-1) {
			t.Errorf("%d: %s", n, s)
		}
		labels := numbers(n)
		labels[n-1] = fmt.Sprint(n + 1)
		r, e := d.b.Record(labels, slices.Repeat([]int{d.types["i"]}, n)...)
		d.ok(e)
		if s := d.text(r); !strings.HasPrefix(s, "{1 : int, ") && n > 2 || !strings.HasSuffix(s, fmt.Sprintf("%d : int}", n+1)) {
			t.Errorf("%d: %s", n, s)
		}
	}
}

// P7.5: variables: their quotes, their classes, their fields.
func TestTextVariables(t *testing.T) {
	d := newDesk(t)
	d.vars("x y")
	d.v("e", 1, true, api.Any)
	d.v("n", 1, false, api.Num)
	d.v("m", 1, false, api.Text)
	d.v("en", 1, true, api.Num)
	d.v("em", 1, true, api.Text)
	d.rigid("'r", 1)
	d.rigid("''s", 1)
	d.rigid("odd", 1)
	d.types["nameless"] = d.rigid("", 1)
	d.open("o", 1, "{a : x}")
	d.open("p", 1, "{1 : x, 2 : y -> x, b : x * y}")
	d.open("q", 1, "unit")
	d.open("inner", 1, "{a : e}")
	d.open("outer", 1, "{a : inner, b : x}")
	d.v("g", 1, true, api.Any)
	d.open("h", 1, "{a : en}")
	d.unify("g", "h")
	for s, want := range map[string]string{
		"e":                   "''a",
		"x * e * y":           "'a * ''b * 'c",
		"n * m * en * em * n": "'a# * 'b## * ''c# * ''d## * 'a#",
		"n list":              "'a# list",
		"'r -> x":             "'r -> 'a",
		"''s * 'r":            "''s * 'r",
		"odd * nameless":      "odd * ",
		"o":                   "{a : 'b, .. 'a}",
		"x -> o":              "'a -> {a : 'a, .. 'b}",
		"o list":              "{a : 'b, .. 'a} list",
		"o -> o":              "{a : 'b, .. 'a} -> {a : 'b, .. 'a}",
		"p":                   "{1 : 'b, 2 : 'c -> 'b, b : 'b * 'c, .. 'a}",
		"q":                   "{.. 'a}",
		"q * o":               "{.. 'a} * {a : 'c, .. 'b}",
		"outer * y":           "{a : {a : ''c, .. 'b}, b : 'd, .. 'a} * 'e",
		"h":                   "{a : ''b#, .. ''a}",
	} {
		d.says(s, want)
	}
}

// P7.5: names of rigid variables are left out, wherever they stand.
func TestTextNamesLeftOut(t *testing.T) {
	for _, c := range []struct{ rigid, ty, want string }{
		{"'a", "x -> 'a", "'b -> 'a"},
		{"'a", "'a -> x", "'a -> 'b"},
		{"'b", "x * y * 'b", "'a * 'c * 'b"},
		{"'a 'b 'd", "'d * x * 'b * y * 'a", "'d * 'c * 'b * 'e * 'a"},
		{"'a", "x -> y", "'a -> 'b"}, // it does not stand in it
		{"''a", "e -> ''a", "''b -> ''a"},
		{"''a", "x -> ''a", "'a -> ''a"},
		{"'a", "e -> 'a", "''a -> 'a"},
		{"'a", "x * e * 'a", "'b * ''c * 'a"},
		{"''a", "e * x * ''a", "''b * 'c * ''a"},
		{"'c", "x * y * e * z * 'c", "'a * 'b * ''c * 'd * 'c"},
		{"'a", "{a : 'a, b : x}", "{a : 'a, b : 'b}"},
		{"'a", "x -> o", "'b -> {a : 'a, .. 'c}"},
		{"a", "x -> a", "'a -> a"},
	} {
		d := newDesk(t)
		d.vars("x y z")
		d.v("e", 1, true, api.Any)
		for _, s := range strings.Fields(c.rigid) {
			d.rigid(s, 1)
		}
		if strings.Contains(c.ty, "o") {
			d.open("o", 1, "{a : 'a}")
		}
		d.says(c.ty, c.want)
	}
	d := newDesk(t)
	for _, s := range []string{"'z", "'a1", "'c1"} {
		d.rigid(s, 1)
	}
	ty := "'z * 'a1 * 'c1"
	for i := range 27 {
		d.vars(fmt.Sprint("x", i))
		ty += fmt.Sprint(" * x", i)
	}
	if s := d.text(d.ty(ty)); !strings.HasPrefix(s, "'z * 'a1 * 'c1 * 'a * 'b * ") || !strings.HasSuffix(s, " * 'x * 'y * 'b1 * 'd1") {
		t.Error(s)
	}
}

// P7.5: names behind z.
func TestTextNames(t *testing.T) {
	d := newDesk(t)
	var l []int
	for i := range 256 {
		l = append(l, d.v("x", 1, i%3 == 0, api.Any))
	}
	n, e := d.b.Record(numbers(256), l...)
	d.ok(e)
	for i, s := range strings.Split(d.text(n), " * ") {
		want := "'" + string("abcdefghijklmnopqrstuvwxyz"[i%26])
		if i >= 26 {
			want += fmt.Sprint(i / 26)
		}
		if i%3 == 0 {
			want = "'" + want
		}
		if s != want {
			t.Errorf("variable %d: %s; want %s", i, s, want)
		}
	}
	for i, want := range map[int]string{0: "'a", 25: "'z", 26: "'a1", 27: "'b1", 51: "'z1", 52: "'a2", 259: "'z9", 260: "'a10", 2047: "'t78"} {
		if s := nameOf(i, false); s != want {
			t.Errorf("%d: %s; want %s", i, s, want)
		}
	}
}

// P7.5: a type's text after things have been made the same.
func TestTextNow(t *testing.T) {
	d := newDesk(t)
	d.vars("x y z")
	d.is("f", "x -> y -> z")
	d.unify("y", "z")
	d.says("f", "'a -> 'b -> 'b")
	d.unify("x", "(y -> int) * z")
	d.says("f", "('a -> int) * 'a -> 'a -> 'a")
	d.unify("z", "real * real")
	d.says("f", "(real * real -> int) * (real * real) -> real * real -> real * real")
}

// P7.5: what Text refuses.
func TestTextWrong(t *testing.T) {
	d := newDesk(t)
	d.huge("h", "v")
	for _, no := range append(noType, len(d.b.cells)) {
		if s, e := d.b.Text(no); s != "" || e != api.ErrType {
			t.Errorf("Text(%d): %s, %d", no, s, e)
		}
	}
	if s, e := d.b.Text(d.types["h"]); s != "" || e != api.ErrLong {
		t.Errorf("Text of a too large one: %.20s, %d", s, e)
	}
	d.vars("x")
	if s := d.text(d.deep(api.MaxSize-1, "x")); s != "'a"+strings.Repeat(" list", api.MaxSize-1) {
		t.Errorf("Text of one of MaxSize: %.20s", s)
	}
}

// P7.5: MaxText bytes, and one more, of which any part may be too much.
func TestTextLong(t *testing.T) {
	for _, c := range []struct {
		name   string
		around int
		make   func(d *desk, long string) (int, api.Errno)
	}{
		{"a constructor", 0, func(d *desk, long string) (int, api.Errno) { return d.b.Apply(d.con(long, 0, api.If)) }},
		{"its argument", len("int "), func(d *desk, long string) (int, api.Errno) { return d.b.Apply(d.con(long, 1, api.If), d.ty("int")) }},
		{"a rigid variable", 0, func(d *desk, long string) (int, api.Errno) { return d.b.Rigid(1, long) }},
		{"an open variable", len("{ : int, .. 'a}"), func(d *desk, long string) (int, api.Errno) { return d.b.Open(1, []string{long}, d.ty("int")) }},
		{"a record", len("{ : unit}"), func(d *desk, long string) (int, api.Errno) { return d.b.Record([]string{long}, d.ty("unit")) }},
		{"an arrow", len("() -> int"), func(d *desk, long string) (int, api.Errno) {
			r, e := d.b.Apply(d.con(long, 0, api.If))
			d.ok(e)
			a, e := d.b.Arrow(d.ty("int"), r)
			d.ok(e)
			a, e = d.b.Arrow(a, d.ty("int"))
			return a, e
		}},
	} {
		extra := 0
		if c.name == "an arrow" {
			extra = len("int -> ")
		}
		for more := range 2 {
			d := newDesk(t)
			n, e := c.make(d, strings.Repeat("z", api.MaxText-c.around-extra+more))
			d.ok(e)
			s, e := d.b.Text(n)
			if more == 0 && (len(s) != api.MaxText || e != api.OK) || more == 1 && (s != "" || e != api.ErrLong) {
				t.Errorf("%s: %d bytes, %d", c.name, len(s), e)
			}
		}
	}
	d := newDesk(t)
	big, e := d.b.Apply(d.con(strings.Repeat("z", api.MaxText/8), 0, api.If))
	d.ok(e)
	d.types["big"] = big
	if s, e := d.b.Text(d.wide(255, "big")); s != "" || e != api.ErrLong {
		t.Errorf("Text of long names: %d bytes, %d", len(s), e)
	}
	if s, e := d.b.Text(d.wide(7, "big")); len(s) != 7*(api.MaxText/8)+6*3 || e != api.OK {
		t.Errorf("Text of long names: %d bytes, %d", len(s), e)
	}
}
