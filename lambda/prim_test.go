package lambda

import (
	"math"
	"slices"
	"strings"
	"testing"

	"kiln/api"
)

// of writes a value: an int, a real, a string, a list of these as a tuple.
func (d *desk) of(v any) int {
	switch x := v.(type) {
	case int:
		return d.i(int64(x))
	case float64:
		return d.r(x)
	case string:
		return d.s(x)
	}
	var l []int
	for _, a := range v.([]any) {
		l = append(l, d.of(a))
	}
	return d.tuple(l...)
}

// P11.3: what each primitive answers and raises, in a program; its steps are its own and those of its arguments.
func TestPrimitives(t *testing.T) {
	const most, least = api.MaxFix, api.MinFix
	long := strings.Repeat("a", api.MaxString)
	for _, c := range []struct {
		name string
		args []any
		want string // what is printed of its value; or the exception
	}{
		{"+", []any{2, 3}, "5"}, {"+", []any{most, 1}, "Overflow"}, {"-", []any{2, 3}, "~1"}, {"-", []any{least, 1}, "Overflow"}, {"*", []any{-4, 3}, "~12"}, {"*", []any{1 << 31, 1 << 31}, "Overflow"},
		{"~", []any{7}, "~7"}, {"~", []any{least}, "Overflow"}, {"abs", []any{-7}, "7"}, {"abs", []any{least}, "Overflow"},
		{"<", []any{1, 2}, "1"}, {"<", []any{2, 2}, "0"}, {"<=", []any{2, 2}, "1"}, {"<=", []any{3, 2}, "0"}, {">", []any{3, 2}, "1"}, {">", []any{2, 2}, "0"}, {">=", []any{2, 2}, "1"}, {">=", []any{1, 2}, "0"},
		{"+ real", []any{0.5, 0.25}, "0.75"}, {"- real", []any{0.5, 0.25}, "0.25"}, {"* real", []any{0.5, 3.0}, "1.5"}, {"~ real", []any{0.0}, "~0.0"}, {"abs real", []any{-0.5}, "0.5"}, {"/", []any{1.0, 0.0}, "inf"}, {"/", []any{0.0, 0.0}, "nan"},
		{"< real", []any{0.5, 1.5}, "1"}, {"< real", []any{math.NaN(), 1.5}, "0"}, {"<= real", []any{1.5, 1.5}, "1"}, {"<= real", []any{1.5, math.NaN()}, "0"}, {"> real", []any{1.5, 0.5}, "1"}, {"> real", []any{math.NaN(), 0.5}, "0"}, {">= real", []any{0.5, 0.5}, "1"}, {">= real", []any{0.5, math.NaN()}, "0"},
		{"< char", []any{65, 66}, "1"}, {"<= char", []any{66, 65}, "0"}, {"> char", []any{66, 65}, "1"}, {">= char", []any{65, 66}, "0"},
		{"< string", []any{"a", "ab"}, "1"}, {"<= string", []any{"b", "ab"}, "0"}, {"> string", []any{"b", "ab"}, "1"}, {">= string", []any{"a", "ab"}, "0"},
		{"div", []any{-7, 2}, "~4"}, {"div", []any{1, 0}, "Div"}, {"div", []any{least, -1}, "Overflow"}, {"mod", []any{-7, 2}, "1"}, {"mod", []any{1, 0}, "Div"}, {"mod", []any{least, -1}, "0"},
		{"quot", []any{-7, 2}, "~3"}, {"quot", []any{1, 0}, "Div"}, {"quot", []any{least, -1}, "Overflow"}, {"rem", []any{-7, 2}, "~1"}, {"rem", []any{1, 0}, "Div"}, {"rem", []any{least, -1}, "0"},
		{"floor", []any{-0.5}, "~1"}, {"floor", []any{math.NaN()}, "Domain"}, {"floor", []any{1e300}, "Overflow"}, {"ceil", []any{-0.5}, "0"}, {"ceil", []any{math.NaN()}, "Domain"}, {"ceil", []any{1e300}, "Overflow"},
		{"trunc", []any{-1.5}, "~1"}, {"trunc", []any{math.NaN()}, "Domain"}, {"trunc", []any{1e300}, "Overflow"}, {"round", []any{2.5}, "2"}, {"round", []any{math.NaN()}, "Domain"}, {"round", []any{1e300}, "Overflow"},
		{"real", []any{-3}, "~3.0"}, {"same", []any{0.0, math.Copysign(0, -1)}, "1"}, {"same", []any{math.NaN(), math.NaN()}, "0"}, {"isNan", []any{math.NaN()}, "1"}, {"isNan", []any{0.0}, "0"},
		{"realText", []any{1e15}, "1.0E15"}, {"intText", []any{-5}, "~5"}, {"intScan", []any{" ~12ab"}, "~12, 4"}, {"intScan", []any{"x"}, "0, 0"}, {"intScan", []any{"99999999999999999999"}, "Overflow"},
		{"realScan", []any{" 1.5E1x"}, "15.0, 6"}, {"realScan", []any{"15"}, "0.0, 0"},
		{"ord", []any{200}, "200"}, {"ord", []any{256}, "stuck"}, {"chr", []any{255}, "255"}, {"chr", []any{256}, "Chr"}, {"chr", []any{-1}, "Chr"},
		{"^", []any{"ab", "c"}, "abc"}, {"^", []any{long, "c"}, "Size"}, {"size", []any{"abc"}, "3"}, {"sub", []any{"abc", 2}, "99"}, {"sub", []any{"abc", 3}, "Subscript"},
		{"substring", []any{"abcd", 1, 2}, "bc"}, {"substring", []any{"abcd", 3, 2}, "Subscript"}, {"str", []any{65}, "A"}, {"str", []any{-1}, "stuck"},
		{"=", []any{2, 2}, "1"}, {"=", []any{2, 3}, "0"}, {"=", []any{"a", "a"}, "1"}, {"=", []any{[]any{1, "a"}, []any{1, "a"}}, "1"}, {"=", []any{1.0, 1.0}, "stuck"}, {"=", []any{1, "1"}, "stuck"},
		{"<>", []any{2, 2}, "0"}, {"<>", []any{2, 3}, "1"}, {"<>", []any{[]any{1, "a"}, []any{1, "b"}}, "1"}, {"<>", []any{1.0, 1.0}, "stuck"},
		{"ref", []any{5}, "cell 5"}, {"array", []any{3, 5}, "cell 5"}, {"array", []any{-1, 5}, "Size"}, {"array", []any{api.MaxCells, 5}, "cell 5"}, {"array", []any{api.MaxCells + 1, 5}, "Size"}, {"exn", []any{"E"}, "cell E"},
		{"print", []any{"p"}, "p0"}, {"print", []any{5}, "stuck"}, {"input", []any{0}, "line\n"},
		{"!", []any{5}, "stuck"}, {":=", []any{5, 5}, "stuck"}, {"length", []any{"abc"}, "stuck"}, {"get", []any{"abc", 0}, "stuck"}, {"set", []any{"abc", 0, 0}, "stuck"},
	} {
		d := &desk{}
		var args []int
		for _, a := range c.args {
			args = append(args, d.of(a))
		}
		steps := len(d.l) + 1
		p := d.whole(d.let(20, d.prim(c.name, args...), d.shown(c.name, d.v(20), c.want)))
		o, e := Run(p, []string{"line"}, 1000)
		got := strings.Join(o.Out, "") + o.Exn
		if o.Status == api.Stuck {
			got += "stuck"
		}
		if e != api.OK || got != c.want {
			t.Errorf("%s of %v: %s, %d; want %s", c.name, c.args, got, e, c.want)
		}
		if ends := o.Status == api.Stuck || o.Status == api.Uncaught; ends && o.Steps != aroundNames+1+steps {
			t.Errorf("%s of %v: %d steps", c.name, c.args, o.Steps)
		}
	}
}

// shown prints what a primitive answers.
func (d *desk) shown(name string, a int, want string) int {
	cell, isCell := strings.CutPrefix(want, "cell ")
	switch {
	case isCell:
		text := d.prim("!", a)
		if strings.Trim(cell, "0123456789") == "" {
			text = d.prim("intText", text)
		}
		return d.seq(d.print("cell "), d.prim("print", text))
	case name == "intScan":
		return d.seq(d.say(d.field(0, a)), d.print(", "), d.say(d.field(1, a)))
	case name == "realScan":
		return d.seq(d.prim("print", d.prim("realText", d.field(0, a))), d.print(", "), d.say(d.field(1, a)))
	case slices.Contains([]string{"realText", "intText", "^", "substring", "str", "input"}, name):
		return d.prim("print", a)
	case slices.Contains([]string{"+ real", "- real", "* real", "~ real", "abs real", "/", "real"}, name):
		return d.prim("print", d.prim("realText", a))
	}
	return d.say(a)
}

// P11.3: cells are things of their own, with a row of values.
func TestCells(t *testing.T) {
	d := &desk{}
	takes(t, "a ref that is set", d.program(d.let(20, d.prim("ref", d.i(1)), d.let(21, d.v(20), d.seq(d.say(d.prim(":=", d.v(21), d.i(2))), d.say(d.prim("!", d.v(20))))))), `"0" "2" done`, 15)
	d = &desk{}
	takes(t, "one cell, and another", d.program(d.let(20, d.prim("ref", d.i(1)), d.let(21, d.prim("ref", d.i(1)), d.seq(d.say(d.prim("=", d.v(20), d.v(20))), d.say(d.prim("=", d.v(20), d.v(21))))))), `"1" "0" done`, 17)
	d = &desk{}
	p := d.whole(d.let(20, d.prim("array", d.i(3), d.s("a")), d.seq(
		d.say(d.prim("set", d.v(20), d.i(1), d.s("b"))), d.prim("set", d.v(20), d.i(2), d.s("c")),
		d.prim("print", d.prim("get", d.v(20), d.i(0))), d.prim("print", d.prim("get", d.v(20), d.i(1))), d.prim("print", d.prim("get", d.v(20), d.i(2))),
		d.say(d.prim("length", d.v(20))), d.prim("print", d.prim("!", d.v(20))), d.prim("set", d.v(20), d.i(3), d.s("d")))))
	does(t, "an array", p, `"0" "a" "b" "c" "3" "a" uncaught Subscript`)
	d = &desk{}
	does(t, "an array of none", d.whole(d.let(20, d.prim("array", d.i(0), d.s("a")), d.seq(d.say(d.prim("length", d.v(20))), d.handle(d.prim("get", d.v(20), d.i(0)), 21, d.print("h")), d.prim("!", d.v(20))))), `"0" "h" stuck`)
	d = &desk{}
	does(t, "set in an array of none", d.whole(d.prim(":=", d.prim("array", d.i(0), d.s("a")), d.s("b"))), "stuck")
	d = &desk{}
	does(t, "a cell in itself", d.whole(d.let(20, d.prim("ref", d.i(1)), d.seq(d.prim(":=", d.v(20), d.v(20)), d.say(d.prim("=", d.v(20), d.prim("!", d.v(20))))))), `"1" done`)
	d = &desk{}
	does(t, "an exception's name", d.whole(d.let(20, d.prim("exn", d.s("E")), d.seq(d.prim("print", d.prim("!", d.v(20))), d.say(d.prim("=", d.v(20), d.prim("exn", d.s("E"))))))), `"E" "0" done`)
}

// P11.3: each pair that is looked at, but the first, counts a step.
func TestEqualSteps(t *testing.T) {
	list := func(d *desk, l ...int64) int {
		end := d.i(0)
		for i := len(l) - 1; i >= 0; i-- {
			end = d.con(1, d.tuple(d.i(l[i]), end))
		}
		return end
	}
	d := &desk{}
	takes(t, "lists", d.program(d.say(d.prim("=", list(d, 1, 2, 3), list(d, 1, 2, 3)))), `"1" done`, 3+20+9)
	d = &desk{}
	takes(t, "to the first difference", d.program(d.say(d.prim("<>", list(d, 1, 2, 3), list(d, 1, 4, 3)))), `"1" done`, 3+20+5)
	d = &desk{}
	takes(t, "one ends", d.program(d.say(d.prim("=", list(d, 1, 2), list(d, 1)))), `"0" done`, 3+7+4+3)
	d = &desk{}
	takes(t, "tags", d.program(d.say(d.prim("=", d.con(1, d.r(1)), d.con(2, d.r(1))))), `"0" done`, 7)
	d = &desk{}
	takes(t, "what can't be held against another", d.program(d.prim("=", d.tuple(d.i(1), d.r(1)), d.tuple(d.i(1), d.r(1)))), "stuck", 7+2)
	d = &desk{}
	takes(t, "what is not looked at", d.program(d.say(d.prim("=", d.tuple(d.i(2), d.r(1)), d.tuple(d.i(1), d.r(1))))), `"0" done`, 9+1)
	d = &desk{}
	takes(t, "functions", d.program(d.prim("=", d.fn(20, d.i(1)), d.fn(20, d.i(1)))), "stuck", 3)
	d = &desk{}
	takes(t, "ahead of what raises", d.whole(d.tuple(d.prim("=", d.tuple(d.i(2)), d.tuple(d.i(2))), d.prim("div", d.i(1), d.i(0)))), "uncaught Div", aroundNames+1+5+1+3)
}
