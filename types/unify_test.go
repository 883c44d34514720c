package types

import (
	"fmt"
	"reflect"
	"slices"
	"testing"

	"kiln/api"
)

// The chapter's examples.
func TestExamples(t *testing.T) {
	d := newDesk(t)
	d.vars("x y")
	d.unify("x", "int list")
	d.tells("x", api.Type{Kind: api.YCon, Con: d.cons["list"], Args: d.look("x").Args})
	d.says("x", "int list")

	d = newDesk(t)
	d.vars("x y")
	d.refuses("x", "x -> y", api.ErrOccurs)
	d.unify("x -> y", "int -> x")
	d.says("x * y", "int * int")

	d = newDesk(t)
	d.v("x", 1, true, api.Any)
	d.refuses("x", "int -> int", api.ErrEquality)
	d.unify("x", "real ref")
	d.v("n", 1, false, api.Num)
	d.refuses("n", "char", api.ErrClass)
	d.ok(d.b.Settle(d.types["n"]))
	d.says("n", "int")

	d = newDesk(t)
	d.vars("y")
	d.open("r", 1, "{a : int}")
	d.says("r", "{a : int, .. 'a}")
	d.refuses("r", "{b : real}", api.ErrFields)
	d.unify("r", "{a : y, b : real}")
	d.says("y", "int")

	d = newDesk(t)
	d.vars("x y")
	if s, e := d.b.Generalize(d.ty("x -> y"), 0); e != api.OK || !slices.Equal(s.Vars, []int{d.types["x"], d.types["y"]}) || d.text(s.Type) != "'a -> 'b" {
		t.Errorf("Generalize: %v, %d", s, e)
	}
	d.rigid("'a", 1)
	d.refuses("'a", "int", api.ErrRigid)
	d.says("(x -> x) -> x * int", "('a -> 'a) -> 'a * int")
}

// P7.2: numbers that are no types, also where the other one is too large, or no type.
func TestUnifyNoType(t *testing.T) {
	d := newDesk(t)
	d.huge("h", "v")
	before := photo(d.b)
	for _, no := range append(noType, len(before)) {
		for _, other := range []int{0, d.types["h"], no} {
			if e := d.b.Unify(no, other); e != api.ErrType {
				t.Errorf("Unify(%d, %d): %d", no, other, e)
			}
			if e := d.b.Unify(other, no); e != api.ErrType {
				t.Errorf("Unify(%d, %d): %d", other, no, e)
			}
		}
	}
	if !reflect.DeepEqual(photo(d.b), before) {
		t.Error("something has changed")
	}
}

// P7.2, step 1: what is one already is OK, however large; else a too large one is refused, whatever else is wrong.
func TestUnifyOne(t *testing.T) {
	d := newDesk(t)
	d.vars("x y")
	d.open("r", 1, "{a : x}")
	d.rigid("'a", 1)
	d.huge("h", "v")
	before := photo(d.b)
	for _, s := range []string{"x", "r", "'a", "h"} {
		d.unify(s, s)
	}
	d.unify("v", "v")
	if !reflect.DeepEqual(photo(d.b), before) {
		t.Error("something has changed")
	}
	d.unify("x", "y")
	before = photo(d.b)
	d.unify("y", "x")
	d.unify("x", "x")
	if !reflect.DeepEqual(photo(d.b), before) {
		t.Error("something has changed")
	}
	d.vars("z")
	for _, s := range []string{"z", "int", "'a", "r", "int -> int", "{b : int}", "unit"} {
		d.refuses("h", s, api.ErrLong)
	}
	d.vars("k")
	d.types["i"] = d.wide(100, "k")
	d.types["o"], _ = d.b.Open(1, numbers(100), slices.Repeat([]int{d.types["k"]}, 100)...)
	d.unify("k", "v")
	d.v("n", 1, false, api.Num)
	d.refuses("h", "i", api.ErrLong)
	d.refuses("o", "n", api.ErrLong)
	d.refuses("o", "k", api.ErrLong)
	d.refuses("o", "h", api.ErrLong)
}

// P7.2, step 1: it is asked at each pair, when its turn comes.
func TestUnifyLargeWithin(t *testing.T) {
	d := newDesk(t)
	d.vars("x y z w")
	d.types["wide"] = d.wide(50, "int")
	d.types["wider"] = d.wide(50, "x")
	// The second pair is too large, but only once x is.
	d.refuses("{a : x, b : wider}", "{a : wide, b : int}", api.ErrLong)
	d.refuses("{a : wider, b : x}", "{a : int, b : wide}", api.ErrUnify)
	d.refuses("{a : x, b : wider, c : int}", "{a : wide, b : y, c : real}", api.ErrLong)
	d.refuses("{a : x, b : int, c : wider}", "{a : wide, b : real, c : y}", api.ErrUnify)
	// So it is of fields of open variables.
	d.open("r", 1, "{a : x, b : wider}")
	d.refuses("r", "{a : wide, b : int}", api.ErrLong)
	d.open("s", 1, "{a : wide, b : int}")
	d.refuses("r", "s", api.ErrLong)
	// The pair itself has become too large.
	d.types["more"] = d.wide(41, "y")
	d.refuses("x * more", "wide * y", api.ErrOccurs)
	d.unify("wider", "z")
	d.says("w", "'a")
}

// P7.2, step 2: two variables, none rigid, what is left of each thing.
func TestUnifyVariables(t *testing.T) {
	for _, equal := range [][2]bool{{false, false}, {false, true}, {true, false}, {true, true}} {
		for _, class := range [][3]api.Class{{api.Any, api.Any, api.Any}, {api.Any, api.Num, api.Num}, {api.Any, api.Text, api.Text}, {api.Num, api.Num, api.Num}, {api.Num, api.Text, api.Num}, {api.Text, api.Text, api.Text}} {
			for _, level := range [][3]int{{0, 0, 0}, {1, 5, 1}, {0, api.MaxLevel, 0}} {
				for way := range 4 {
					d := newDesk(t)
					d.v("x", level[way/2], equal[0], class[way%2])
					d.v("y", level[1-way/2], equal[1], class[1-way%2])
					d.unify("x", "y")
					want := api.Type{Kind: api.YVar, Level: level[2], Equal: equal[0] || equal[1], Class: class[2]}
					d.tells("x", want)
					d.tells("y", want)
					if l := d.b.Free(d.ty("x -> y")); len(l) != 1 {
						t.Errorf("Free: %v", l)
					}
				}
			}
		}
	}
}

// P7.2, step 2: open variables, and ones that are not.
func TestUnifyOpen(t *testing.T) {
	d := newDesk(t)
	d.vars("x y z w")
	d.open("r", 3, "{1 : x, 10 : y, b : int}")
	d.open("s", 2, "{2 : z, 10 : real, a : w, b : w}")
	d.unify("r", "s")
	d.says("r", "{1 : 'b, 2 : 'c, 10 : real, a : int, b : int, .. 'a}")
	d.says("s", "{1 : 'b, 2 : 'c, 10 : real, a : int, b : int, .. 'a}")
	for _, name := range []string{"r", "s"} {
		if told := d.look(name); told.Level != 2 || !told.Open || told.Equal || told.Class != api.Any || told.Kind != api.YVar {
			t.Errorf("Look(%s): %+v", name, told)
		}
	}

	d = newDesk(t)
	d.vars("x y")
	d.open("r", 3, "{a : x}")
	d.open("e", 3, "unit")
	d.unify("y", "r")
	d.says("y", "{a : 'b, .. 'a}")
	d.unify("e", "y")
	d.says("e", "{a : 'b, .. 'a}")
	if told := d.look("e"); told.Level != 1 || !told.Open {
		t.Errorf("Look: %+v", told)
	}
}

// P7.2, step 2: the errors, and two at once in their order.
func TestUnifyOpenRefuses(t *testing.T) {
	d := newDesk(t)
	d.v("x", 1, false, api.Num)
	d.vars("y z")
	d.v("e", 1, true, api.Any)
	d.open("r", 1, "{a : x list}")
	d.open("s", 1, "{a : int -> z, b : y}")
	d.open("deep", 1, "{a : {b : r}}")
	d.v("n", 1, false, api.Num)
	d.v("m", 1, false, api.Text)
	d.refuses("r", "x", api.ErrOccurs) // ahead of ErrClass
	d.refuses("deep", "x", api.ErrOccurs)
	d.refuses("deep", "r", api.ErrOccurs)
	d.refuses("s", "y", api.ErrOccurs)
	d.refuses("r", "n", api.ErrClass)
	d.refuses("s", "m", api.ErrClass)
	d.refuses("r", "s", api.ErrUnify)
	d.refuses("e", "s", api.ErrEquality)
	d.open("k", 1, "{a : int, b : real, c : int list}")
	d.open("l", 1, "{b : unit, c : x}") // the label that both have first is told
	d.refuses("k", "l", api.ErrUnify)
	d.open("k", 1, "{a : int list, b : int, c : x}")
	d.open("l", 1, "{a : x, b : unit, c : x list}")
	d.refuses("k", "l", api.ErrClass)
}

// P7.2, step 2: equality of what is left is its fields', too, after they are one, of those of both.
func TestUnifyOpenEquality(t *testing.T) {
	d := newDesk(t)
	d.vars("x y z")
	d.v("e", 1, true, api.Any)
	d.open("r", 1, "{a : x, b : y list}")
	d.open("inner", 1, "{c : z}")
	d.open("s", 1, "{b : y list, d : inner * real ref}")
	d.unify("e", "r")
	d.says("r", "{a : ''b, b : ''c list, .. ''a}")
	d.unify("r", "s")
	d.says("s", "{a : ''b, b : ''c list, d : {c : ''e, .. ''d} * real ref, .. ''a}")
	d.says("z", "''a")

	d = newDesk(t)
	d.vars("x y")
	d.v("e", 1, true, api.Any)
	d.open("r", 1, "{a : x}")
	d.unify("e", "r")
	for _, wrong := range []string{"{b : real}", "{b : exn}", "{b : int -> int}", "{b : int * real}", "{b : y fun}", "{a : real}", "{b : {c : no}}"} {
		d.open("s", 1, wrong)
		d.refuses("r", "s", api.ErrEquality)
	}
	d.rigid("'a", 1)
	d.rigid("''a", 1)
	d.open("s", 1, "{b : 'a}")
	d.refuses("r", "s", api.ErrEquality)
	d.open("s", 1, "{b : ''a}")
	d.unify("r", "s")
	d.says("r", "{a : ''c, b : ''a, .. ''b}")
}

// P7.2, step 2: the fields' levels are lowered; one that is rigid can't be.
func TestUnifyOpenLevels(t *testing.T) {
	d := newDesk(t)
	d.v("x", 5, false, api.Any)
	d.v("y", 0, false, api.Any)
	d.v("z", 9, true, api.Num)
	d.open("inner", 7, "{c : z}")
	d.open("r", 4, "{a : x -> y}")
	d.open("s", 2, "{b : inner}")
	d.unify("r", "s")
	for name, want := range map[string]int{"x": 2, "y": 0, "z": 2, "inner": 2, "r": 2, "s": 2} {
		if level := d.look(name).Level; level != want {
			t.Errorf("%s has the level %d; want %d", name, level, want)
		}
	}
	d.tells("z", api.Type{Kind: api.YVar, Level: 2, Equal: true, Class: api.Num})

	d = newDesk(t)
	d.rigid("'a", 3)
	d.open("r", 3, "{a : 'a}")
	d.v("x", 2, false, api.Any)
	d.v("y", 3, false, api.Any)
	d.refuses("r", "x", api.ErrRigid)
	d.unify("r", "y")
	d.open("s", 2, "{a : int}")
	d.refuses("r", "s", api.ErrRigid)
	d.open("s", 2, "{b : int}")
	d.refuses("r", "s", api.ErrRigid)
	d.v("e", 2, true, api.Any)
	d.refuses("r", "e", api.ErrEquality) // ahead of the levels
}

// P7.2, step 2: the one that is left may be MaxSize, not more, and that is asked ahead of equality.
func TestUnifyOpenLarge(t *testing.T) {
	d := newDesk(t)
	d.vars("x y z")
	d.v("e", 1, true, api.Any)
	d.types["big"] = d.deep(1022, "int")
	d.types["unlike"] = d.deep(1024, "real")
	d.open("r", 1, "{a : big}")
	d.unify("e", "r")
	d.open("s", 1, "{b : unlike}")
	d.refuses("r", "s", api.ErrLong)
	d.open("s", 1, "{b : big, c : x ref}")
	d.refuses("r", "s", api.ErrLong)
	d.open("s", 1, "{b : big, c : x}")
	d.unify("r", "s")
	if left := d.b.left(api.MaxSize, d.types["r"]); left != 0 {
		t.Errorf("%d are left", left)
	}
	// The fields that both have may grow.
	d.types["w"] = d.wide(60, "y")
	d.types["v"] = d.wide(60, "int")
	d.open("p", 1, "{a : y, b : w}")
	d.open("q", 1, "{a : v, c : real}")
	d.refuses("p", "q", api.ErrLong)
	d.open("q", 1, "{a : v, b : real}")
	d.refuses("p", "q", api.ErrLong)
	d.open("p", 1, "{a : w, b : y}")
	d.open("q", 1, "{a : real, b : v}")
	d.refuses("p", "q", api.ErrUnify)
}

// P7.2, step 2: no more fields are refused for their number.
func TestUnifyManyFields(t *testing.T) {
	d := newDesk(t)
	i := d.is("i", "int")
	var odd, even []string
	for k := range 2 * api.MaxLabels {
		if k%2 == 0 {
			even = append(even, fmt.Sprintf("l%03d", k))
		} else {
			odd = append(odd, fmt.Sprintf("l%03d", k))
		}
	}
	r, e := d.b.Open(1, even, slices.Repeat([]int{i}, len(even))...)
	d.ok(e)
	s, e := d.b.Open(1, odd, slices.Repeat([]int{i}, len(odd))...)
	d.ok(e)
	d.ok(d.b.Unify(r, s))
	if told, _ := d.b.Look(s); len(told.Labels) != 2*api.MaxLabels || !slices.IsSorted(told.Labels) || len(told.Args) != 2*api.MaxLabels {
		t.Errorf("%d labels", len(told.Labels))
	}
}

// P7.2, step 3: a variable and another type.
func TestUnifyVariable(t *testing.T) {
	for _, s := range []string{"int", "y list", "y -> int", "{a : y}", "y * real", "unit", "'a"} {
		d := newDesk(t)
		d.vars("x y")
		d.rigid("'a", 1)
		want := d.look(s)
		d.unify("x", s)
		told := d.look("x")
		if told.Kind != want.Kind || told.Con != want.Con || !slices.Equal(told.Labels, want.Labels) || told.Rigid != want.Rigid {
			t.Errorf("Look(x): %+v; want %+v", told, want)
		}
		d = newDesk(t)
		d.vars("x y")
		d.rigid("'a", 1)
		d.unify(s, "x")
		if other := d.look("x"); other.Kind != told.Kind || other.Con != told.Con {
			t.Errorf("Look(x): %+v; want %+v", other, told)
		}
	}
}

// P7.2, step 3: a variable that stands in the other, ahead of all else that is wrong.
func TestUnifyOccurs(t *testing.T) {
	d := newDesk(t)
	d.v("x", 0, true, api.Num)
	d.rigid("'a", 5)
	d.open("r", 1, "{a : int}")
	d.open("s", 1, "{a : x}")
	for _, s := range []string{"x list", "x -> 'a", "'a -> x", "real * x", "{a : unit, b : {c : x fun}}", "s list", "int * s"} {
		d.refuses("x", s, api.ErrOccurs)
	}
	d.refuses("r", "r list", api.ErrOccurs)
	d.refuses("r", "{a : r}", api.ErrOccurs)
	d.refuses("r", "{b : r}", api.ErrOccurs)
	d.refuses("r", "r -> x", api.ErrOccurs)
	d.refuses("{a : x, b : int}", "{a : int, b : x list}", api.ErrUnify)
	d.vars("y z")
	d.refuses("y -> z", "z list -> y list", api.ErrOccurs)
	d.refuses("y -> y", "z -> z list", api.ErrOccurs)
}

// P7.2, step 3: an open variable and another type.
func TestUnifyFill(t *testing.T) {
	d := newDesk(t)
	d.vars("x y z")
	d.rigid("'a", 0)
	d.open("r", 1, "{1 : x, 10 : int, b : y}")
	for _, s := range []string{"int", "'a", "x list", "int -> int", "real"} {
		d.refuses("r", s, api.ErrUnify)
	}
	for _, s := range []string{"unit", "{1 : z}", "{1 : z, 10 : int}", "{10 : int, b : z}", "{1 : z, b : z}", "{1 : z, 2 : z, 3 : z, 4 : z}", "{1 : z, 10 : real, c : z}"} {
		d.refuses("r", s, api.ErrFields)
	}
	d.refuses("r", "{1 : z, 10 : real, b : z}", api.ErrUnify)
	d.refuses("r", "{1 : y, 2 : z, 10 : z, b : x list}", api.ErrOccurs)
	d.unify("r", "{1 : z, 2 : real, 10 : z, a : unit, b : z list}")
	d.says("r", "{1 : int, 2 : real, 10 : int, a : unit, b : int list}")
	d.says("x * y", "int * int list")

	d = newDesk(t)
	d.open("e", 1, "unit")
	d.open("f", 1, "unit")
	d.open("g", 1, "{1 : int, 2 : int}")
	d.refuses("e", "int", api.ErrUnify)
	d.unify("e", "unit")
	d.unify("f", "int * int")
	d.unify("g", "f")
	d.says("g * e", "(int * int) * unit")
}

// P7.2, step 3: what is wrong first among an open variable's fields.
func TestUnifyFillOrder(t *testing.T) {
	d := newDesk(t)
	d.vars("x y")
	d.v("n", 1, false, api.Num)
	d.rigid("'a", 1)
	d.open("r", 1, "{2 : int, 10 : n, a : 'a, b : x}")
	for _, c := range []struct {
		record string
		want   api.Errno
	}{
		{"{2 : real, 10 : char, a : int, b : x list}", api.ErrUnify},
		{"{2 : int, 10 : char, a : int, b : x list}", api.ErrClass},
		{"{2 : int, 10 : real, a : int, b : x list}", api.ErrRigid},
		{"{2 : int, 10 : real, a : 'a, b : x list}", api.ErrOccurs},
		{"{2 : real, 10 : char, a : int, c : x list}", api.ErrFields},
		{"r list", api.ErrOccurs},
	} {
		d.refuses("r", c.record, c.want)
	}
}

// P7.2, step 3: a class.
func TestUnifyClass(t *testing.T) {
	for s, want := range map[string][2]api.Errno{
		"int":      {api.OK, api.OK},
		"real":     {api.OK, api.OK},
		"char":     {api.ErrClass, api.OK},
		"string":   {api.ErrClass, api.OK},
		"exn":      {api.ErrClass, api.ErrClass},
		"no":       {api.ErrClass, api.ErrClass},
		"int ref":  {api.ErrClass, api.ErrClass},
		"int list": {api.ErrClass, api.ErrClass},
		"unit":     {api.ErrClass, api.ErrClass},
		"int * x":  {api.ErrClass, api.ErrClass},
		"x -> x":   {api.ErrClass, api.ErrClass},
		"'a":       {api.ErrClass, api.ErrClass},
		"''a":      {api.ErrClass, api.ErrClass},
	} {
		for i, class := range []api.Class{api.Num, api.Text} {
			d := newDesk(t)
			d.v("n", 1, false, class)
			d.vars("x")
			d.rigid("'a", 5)
			d.rigid("''a", 5)
			if want[i] != api.OK {
				d.refuses("n", s, want[i])
				d.v("n", 1, true, class) // ahead of equality, and of levels
				d.refuses("n", s, want[i])
				continue
			}
			d.unify("n", s)
			d.says("n", s)
		}
	}
	d := newDesk(t)
	d.v("n", 1, true, api.Num)
	d.v("m", 1, true, api.Text)
	d.refuses("n", "real", api.ErrEquality)
	d.refuses("m", "real", api.ErrEquality)
	d.unify("n", "int")
	d.unify("m", "string")
}

// P7.2, step 3: equality.
func TestUnifyEquality(t *testing.T) {
	for s, ok := range map[string]bool{
		"int": true, "char": true, "string": true, "real": false, "exn": false, "no": false,
		"int ref": true, "real ref": true, "(int -> int) array": true, "exn array": true,
		"int list": true, "real list": false, "int fun": false, "(int, real) pair": false, "(real, int) pair": false, "(int, real ref) pair": true, "(real, exn) box": true,
		"int -> int": false, "unit": true, "int * char": true, "int * real": false, "real * int": false, "{a : {b : int list}}": true, "{a : {b : real list}}": false,
		"''a": true, "'a": false, "''a list * int": true, "int * 'a": false, "'a ref": true, "'''a": true, "'": false, "''": true, "a": false,
		"(int -> int) list list": false, "(int * int) list * unit": true,
	} {
		d := newDesk(t)
		d.v("x", 1, true, api.Any)
		for _, name := range []string{"'a", "''a", "'''a", "'", "''", "a"} {
			d.rigid(name, 1)
		}
		if !ok {
			d.refuses("x", s, api.ErrEquality)
			continue
		}
		d.unify("x", s)
	}
	d := newDesk(t)
	d.v("x", 1, true, api.Any)
	d.vars("a b c e f g")
	d.v("n", 4, false, api.Text)
	d.open("r", 1, "{a : e, b : f ref}")
	d.unify("x", "(a * b) list * (c ref * r) * (n, (g -> g, g fun) box) pair")
	d.says("a * b * c * e * f * g * n * r", "''a * ''b * 'c * ''d * 'e * 'f * ''g## * {a : ''d, b : 'e ref, .. ''h}")
	d.rigid("'a", 9)
	d.v("y", 1, true, api.Any)
	d.refuses("y", "'a", api.ErrEquality) // ahead of levels
	d.refuses("y", "'a * real", api.ErrEquality)
}

// P7.2, step 3: levels, and rigid variables among them.
func TestUnifyLevels(t *testing.T) {
	d := newDesk(t)
	d.v("x", 2, false, api.Any)
	d.v("a", 1, false, api.Any)
	d.v("b", 2, false, api.Any)
	d.v("c", 3, true, api.Num)
	d.v("e", 9, false, api.Any)
	d.open("r", 8, "{a : e}")
	d.rigid("'a", 2)
	d.rigid("'b", 0)
	d.unify("x", "(a -> b) * c list * r * 'a * 'b")
	for name, want := range map[string]int{"a": 1, "b": 2, "c": 2, "e": 2, "r": 2, "'a": 2, "'b": 0} {
		if level := d.look(name).Level; level != want {
			t.Errorf("%s has the level %d; want %d", name, level, want)
		}
	}
	d.tells("c", api.Type{Kind: api.YVar, Level: 2, Equal: true, Class: api.Num})
	d.v("y", 1, false, api.Any)
	d.v("e", 9, false, api.Any)
	d.refuses("y", "'a", api.ErrRigid)
	d.refuses("y", "e * 'a", api.ErrRigid)
	d.refuses("y", "'b -> {a : 'a list}", api.ErrRigid)
	d.open("s", 4, "{a : 'a}")
	d.refuses("y", "s list", api.ErrRigid)
	d.unify("y", "'b * e")
	d.v("z", 0, false, api.Any)
	d.unify("z", "'b")
	d.open("o", 0, "{a : z}")
	d.refuses("o", "{a : 'b, b : 'a}", api.ErrRigid)
	d.refuses("o", "{a : 'a, b : 'a}", api.ErrRigid)
	d.unify("o", "{a : 'b, b : e}")
	if level := d.look("e").Level; level != 0 {
		t.Errorf("the level is %d", level)
	}
}

// P7.2, step 4: rigid variables.
func TestUnifyRigid(t *testing.T) {
	d := newDesk(t)
	d.rigid("'a", 1)
	d.types["other"] = d.rigid("'a", 1)
	d.rigid("'a", 1)
	d.rigid("''b", 1)
	d.types["nameless"] = d.rigid("", 1)
	d.vars("x")
	for _, s := range []string{"other", "''b", "nameless", "int", "'a list", "x -> x", "unit", "x * x"} {
		d.refuses("'a", s, api.ErrRigid)
	}
	d.refuses("nameless", "int", api.ErrRigid)
	d.unify("'a * 'a", "'a * 'a")
	d.unify("x", "'a")
	d.refuses("x", "other", api.ErrRigid)
	d.refuses("'a list", "int list", api.ErrRigid)
}

// P7.2, steps 5 and 6: types that are no variables.
func TestUnifyOthers(t *testing.T) {
	d := newDesk(t)
	d.vars("x y z")
	for _, c := range []struct {
		s, t string
		want api.Errno
	}{
		{"int", "real", api.ErrUnify},
		{"x list", "x t", api.ErrUnify},
		{"int", "int list", api.ErrUnify},
		{"int", "unit", api.ErrUnify},
		{"int", "int -> int", api.ErrUnify},
		{"unit", "int -> int", api.ErrUnify},
		{"x * y", "x -> y", api.ErrUnify},
		{"(x, y) pair", "x * y", api.ErrUnify},
		{"(x, y) pair", "x -> y", api.ErrUnify},
		{"(x, y) pair", "(x, y) box", api.ErrUnify},
		{"unit", "{a : x}", api.ErrFields},
		{"{a : x}", "{b : x}", api.ErrFields},
		{"{a : x, b : y}", "{a : x}", api.ErrFields},
		{"{a : int, b : y}", "{a : real, c : y}", api.ErrFields},
		{"x * y", "x * y * z", api.ErrFields},
		{"(int, unit) pair", "(real, {a : int}) pair", api.ErrUnify},
		{"(unit, int) pair", "({a : int}, real) pair", api.ErrFields},
		{"int -> unit", "real -> {a : x}", api.ErrUnify},
		{"unit -> int", "{a : x} -> real", api.ErrFields},
		{"{2 : int, 10 : unit}", "{2 : real, 10 : {a : x}}", api.ErrUnify},
		{"{2 : unit, 10 : int}", "{2 : {a : x}, 10 : real}", api.ErrFields},
		{"{9 : int, a : unit}", "{9 : real, a : {a : x}}", api.ErrUnify},
		{"x -> x", "int -> real", api.ErrUnify},
		{"x * y * (x -> y)", "y * int * (real -> int)", api.ErrUnify},
	} {
		d.refuses(c.s, c.t, c.want)
	}
	d.unify("int", "int")
	d.unify("unit", "unit")
	d.unify("x -> int list", "real -> y")
	d.says("x * y", "real * int list")
	d.unify("{a : z, b : x}", "{a : y list, b : real}")
	d.says("z", "int list list")
	d.vars("x y z w")
	d.unify("(x, {a : y list}) pair -> w", "(y * y, {a : z}) pair -> z * z")
	d.says("w", "'a list * 'a list")
	d.says("x", "'a * 'a")
}

// P7.2: at last both may be MaxSize, not more.
func TestUnifyLargeAtLast(t *testing.T) {
	d := newDesk(t)
	d.vars("x y")
	d.types["less"] = d.deep(1020, "int")
	d.types["half"] = d.deep(1022, "int")
	d.types["more"] = d.deep(1023, "int")
	d.refuses("x list -> x", "more list -> y", api.ErrLong)
	d.refuses("x list -> x", "more list -> x", api.ErrLong)
	d.refuses("(x list, x) pair", "(more list, y) pair", api.ErrLong)
	d.refuses("x list * x", "more list * y", api.ErrLong)
	// It is told ahead of what is wrong behind it.
	d.refuses("(x list -> x) * int", "(more list -> y) * real", api.ErrLong)
	d.refuses("x list * x * int", "more list * y * real", api.ErrUnify)
	d.vars("z w")
	d.unify("z list -> z", "half list -> w")
	if left := d.b.left(api.MaxSize, d.ty("z list -> z")); left != 0 {
		t.Errorf("%d are left", left)
	}
	d.vars("z w v")
	d.refuses("z list * z * v * v * v * v * v", "less list * w * int * int * int * int * int", api.ErrLong)
	d.unify("z list * z * v * v * v * v", "less list * w * int * int * int * int")
}

// P7.2: types that share parts, as large as they may be written out, and the way from a variable to what it is.
func TestUnifyShared(t *testing.T) {
	d := newDesk(t)
	d.vars("x0 y0")
	for i := range 9 {
		d.is(fmt.Sprint("x", i+1), fmt.Sprintf("x%d * x%d", i, i))
		d.is(fmt.Sprint("y", i+1), fmt.Sprintf("y%d * y%d", i, i))
	}
	d.unify("x9", "y9")
	d.unify("x0", "y0")
	d.refuses("x9 -> x0", "y9 -> x0 list", api.ErrOccurs)
	d.unify("x0", "int")
	d.vars("x0")
	if d.text(d.types["x9"]) != d.text(d.types["y9"]) {
		t.Error("other texts")
	}
	// Each is two of the next one: the last one would be 2^60 large.
	for i := range 60 {
		d.vars(fmt.Sprintf("z%d", i))
	}
	for i := range 59 {
		d.unify(fmt.Sprintf("z%d", i), fmt.Sprintf("z%d * z%d", i+1, i+1))
	}
	d.refuses("z0", "int", api.ErrLong)
	d.unify("z0", "z0")
	d.has("z0", "")
	d.covers("x0", "x0", "", "z0", false)
	d.covers("", "z0", "", "z0", false)
	d.covers("z59", "z0", "z59", "int", false)
	d.covers("", "z0", "", "x0", false)
	if s, e := d.b.Text(d.types["z0"]); s != "" || e != api.ErrLong {
		t.Errorf("Text: %d bytes, %d", len(s), e)
	}
	if d.b.Equal(d.types["z0"]) {
		t.Error("Equal: true")
	}
	d.unify("z59", "int")
	if !d.b.Equal(d.types["z0"]) {
		t.Error("Equal: false")
	}
}

// P7.2: many variables that are one; it takes no time.
func TestUnifyManyVariables(t *testing.T) {
	b := New()
	first, _ := b.Var(1, false, api.Any)
	last := first
	for range 200000 {
		v, e := b.Var(1, false, api.Any)
		if e != api.OK {
			t.Fatal(e)
		}
		for _, s := range []int{first, last} {
			if e := b.Unify(s, v); e != api.OK {
				t.Fatal(e)
			}
		}
		last = v
	}
	i, _ := b.Apply(api.ConInt)
	if e := b.Unify(i, last); e != api.OK {
		t.Error(e)
	}
	if s, e := b.Text(first); s != "int" || e != api.OK {
		t.Errorf("Text: %s, %d", s, e)
	}
}

// P7.2: the other way round, many variables that become one after the other.
func TestUnifyManyVariablesBack(t *testing.T) {
	b := New()
	var l []int
	for range 200000 {
		v, e := b.Var(1, false, api.Any)
		if e != api.OK {
			t.Fatal(e)
		}
		l = append(l, v)
	}
	for i := range l[1:] {
		if e := b.Unify(l[i+1], l[i]); e != api.OK {
			t.Fatal(e)
		}
		if e := b.Unify(l[0], l[i+1]); e != api.OK {
			t.Fatal(e)
		}
	}
	if n := len(b.Free(l[len(l)-1])); n != 1 {
		t.Errorf("%d variables", n)
	}
}
