package cps

import (
	"strings"
	"testing"

	"kiln/api"
)

// P13.3: what each kind of move does, and in how many steps; with less fuel the run ends ahead of the next one.
func TestEachMove(t *testing.T) {
	for name, c := range map[string]struct {
		write func(d *desk) int
		want  string
		steps int
	}{
		"halt":             {func(d *desk) int { return d.halt(d.i(5)) }, "done", 1},
		"halt of a string": {func(d *desk) int { return d.halt(d.s("a")) }, "done", 1},
		"halt of a real":   {func(d *desk) int { return d.halt(d.r(0.5)) }, "done", 1},
		"tuple":            {func(d *desk) int { return d.tuple(1, d.i(5), d.s("a"), d.tuple(2, d.v(1), d.halt(d.v(2)))) }, "done", 3},
		"constructor":      {func(d *desk) int { return d.con(1, 3, d.i(5), d.halt(d.v(1))) }, "done", 2},
		"field": {func(d *desk) int {
			return d.tuple(1, d.i(5), d.i(6), d.i(7), d.field(2, 1, d.v(1), d.say(d.v(2), d.done())))
		}, `"6" done`, 5},
		"first field": {func(d *desk) int {
			return d.tuple(1, d.i(5), d.i(6), d.i(7), d.field(2, 0, d.v(1), d.say(d.v(2), d.done())))
		}, `"5" done`, 5},
		"last field": {func(d *desk) int {
			return d.tuple(1, d.i(5), d.i(6), d.i(7), d.field(2, 2, d.v(1), d.say(d.v(2), d.done())))
		}, `"7" done`, 5},
		"no field":            {func(d *desk) int { return d.tuple(1, d.i(5), d.field(2, 1, d.v(1), d.print("a", d.done()))) }, "stuck", 2},
		"in a constructor":    {func(d *desk) int { return d.con(1, 3, d.i(5), d.field(2, 0, d.v(1), d.say(d.v(2), d.done()))) }, `"5" done`, 5},
		"no field in one":     {func(d *desk) int { return d.con(1, 3, d.i(5), d.field(2, 1, d.v(1), d.done())) }, "stuck", 2},
		"field of an int":     {func(d *desk) int { return d.field(2, 0, d.i(1), d.done()) }, "stuck", 1},
		"field of a string":   {func(d *desk) int { return d.field(2, 0, d.s("ab"), d.done()) }, "stuck", 1},
		"field of a cell":     {func(d *desk) int { return d.prim(1, "ref", d.i(5), d.field(2, 0, d.v(1), d.done())) }, "stuck", 2},
		"field of a function": {func(d *desk) int { return d.fix([]int{1}, d.fn(nil, d.done()), d.field(2, 0, d.v(1), d.done())) }, "stuck", 2},
		"bound again": {func(d *desk) int {
			return d.con(1, 0, d.i(5), d.con(1, 1, d.v(1), d.field(1, 0, d.v(1), d.field(1, 0, d.v(1), d.say(d.v(1), d.done())))))
		}, `"5" done`, 7},
		"primitive": {func(d *desk) int { return d.prim(1, "<", d.i(5), d.i(6), d.say(d.v(1), d.done())) }, `"1" done`, 4},
		"one that may raise": {func(d *desk) int {
			return d.prim(1, "+", d.i(5), d.i(6), d.say(d.v(1), d.done()), d.print("r", d.done()))
		}, `"11" done`, 4},
		"one that raises": {func(d *desk) int {
			return d.prim(1, "+", d.i(5), d.i(api.MaxFix), d.print("n", d.done()), d.say(d.v(1), d.done()))
		}, `"6" done`, 4},
		"one of its own": {func(d *desk) int {
			return d.con(9, 1, d.i(0), d.prim(9, "-", d.i(5), d.i(api.MinFix), d.done(), d.say(d.v(9), d.done())))
		}, `"6" done`, 5},
		"of another kind": {func(d *desk) int {
			return d.prim(1, "+", d.i(5), d.s("a"), d.print("n", d.done()), d.print("r", d.done()))
		}, "stuck", 1},
		"fix": {func(d *desk) int {
			return d.fix([]int{1}, d.fn([]int{2}, d.say(d.v(2), d.done())), d.call(d.v(1), d.i(5)))
		}, `"5" done`, 5},
		"fix of two": {func(d *desk) int {
			return d.fix([]int{1, 2}, d.fn([]int{3}, d.call(d.v(2), d.i(5), d.v(3))), d.fn([]int{3, 4}, d.say(d.v(4), d.say(d.v(3), d.done()))), d.call(d.v(1), d.i(7)))
		}, `"7" "5" done`, 8},
		"fix of equals": {func(d *desk) int {
			return d.fix([]int{1, 1, 1}, d.fn(nil, d.print("a", d.done())), d.fn(nil, d.print("b", d.done())), d.fn(nil, d.print("c", d.done())), d.call(d.v(1)))
		}, `"a" done`, 4},
		"equals, among them": {func(d *desk) int {
			return d.fix([]int{2, 1, 1}, d.fn(nil, d.call(d.v(1))), d.fn(nil, d.print("b", d.done())), d.fn(nil, d.print("c", d.done())), d.call(d.v(2)))
		}, `"b" done`, 5},
		"fix hides": {func(d *desk) int {
			return d.con(1, 0, d.i(5), d.fix([]int{1}, d.fn([]int{1}, d.say(d.v(1), d.done())), d.call(d.v(1), d.i(6))))
		}, `"6" done`, 6},
		"a function's own": {func(d *desk) int {
			return d.con(1, 0, d.i(5), d.fix([]int{2}, d.fn(nil, d.field(3, 0, d.v(1), d.say(d.v(3), d.done()))), d.con(1, 0, d.i(6), d.call(d.v(2)))))
		}, `"5" done`, 8},
		"call of no argument": {func(d *desk) int { return d.fix([]int{1}, d.fn(nil, d.done()), d.call(d.v(1))) }, "done", 3},
		"call of two": {func(d *desk) int {
			return d.fix([]int{1}, d.fn([]int{3, 2}, d.say(d.v(2), d.say(d.v(3), d.done()))), d.call(d.v(1), d.i(5), d.i(6)))
		}, `"6" "5" done`, 7},
		"too few": {func(d *desk) int { return d.fix([]int{1}, d.fn([]int{3, 2}, d.done()), d.call(d.v(1), d.i(5))) }, "stuck", 2},
		"too many": {func(d *desk) int {
			return d.fix([]int{1}, d.fn([]int{3, 2}, d.done()), d.call(d.v(1), d.i(5), d.i(5), d.i(5)))
		}, "stuck", 2},
		"none for one":     {func(d *desk) int { return d.fix([]int{1}, d.fn([]int{3}, d.done()), d.call(d.v(1))) }, "stuck", 2},
		"one for none":     {func(d *desk) int { return d.fix([]int{1}, d.fn(nil, d.done()), d.call(d.v(1), d.i(5))) }, "stuck", 2},
		"call of an int":   {func(d *desk) int { return d.call(d.i(5)) }, "stuck", 1},
		"call of a string": {func(d *desk) int { return d.call(d.s("f"), d.i(5)) }, "stuck", 1},
		"call of a tuple":  {func(d *desk) int { return d.fix([]int{1}, d.fn(nil, d.done()), d.tuple(2, d.v(1), d.call(d.v(2)))) }, "stuck", 3},
		"a function handed on": {func(d *desk) int {
			return d.fix([]int{1, 2}, d.fn([]int{3}, d.call(d.v(3), d.i(5))), d.fn([]int{3}, d.say(d.v(3), d.done())), d.call(d.v(1), d.v(2)))
		}, `"5" done`, 6},
		"case of an int": {func(d *desk) int {
			return d.choose([]api.Key{kInt(1), kInt(2), kInt(2)}, d.i(2), d.print("a", d.done()), d.print("b", d.done()), d.print("c", d.done()))
		}, `"b" done`, 3},
		"case of all others": {func(d *desk) int {
			return d.choose([]api.Key{kInt(1)}, d.i(2), d.print("a", d.done()), d.print("b", d.done()))
		}, `"b" done`, 3},
		"case of nothing":        {func(d *desk) int { return d.choose([]api.Key{kInt(1)}, d.i(2), d.print("a", d.done())) }, "stuck", 1},
		"case without keys":      {func(d *desk) int { return d.choose(nil, d.r(1), d.print("a", d.done())) }, `"a" done`, 3},
		"case of nothing at all": {func(d *desk) int { return d.choose(nil, d.i(1)) }, "stuck", 1},
		"case of a constructor": {func(d *desk) int {
			return d.con(1, 2, d.i(0), d.choose([]api.Key{kInt(2), kStr("2"), kCon(2)}, d.v(1), d.print("a", d.done()), d.print("b", d.done()), d.print("c", d.done())))
		}, `"c" done`, 4},
		"case of a string": {func(d *desk) int {
			return d.choose([]api.Key{kInt(2), kCon(2), kStr(""), kStr("2")}, d.s("2"), d.done(), d.done(), d.done(), d.print("a", d.done()))
		}, `"a" done`, 3},
		"case of a function": {func(d *desk) int {
			return d.fix([]int{1}, d.fn(nil, d.done()), d.choose([]api.Key{kInt(2)}, d.v(1), d.print("a", d.done())))
		}, "stuck", 2},
		"equals": {func(d *desk) int {
			return d.tuple(1, d.i(1), d.s("a"), d.con(2, 1, d.v(1), d.prim(3, "=", d.v(2), d.v(2), d.say(d.v(3), d.done()))))
		}, `"1" done`, 6 + 3},
		"to the first difference": {func(d *desk) int {
			return d.tuple(1, d.i(1), d.i(2), d.i(3), d.tuple(2, d.i(1), d.i(4), d.i(3), d.prim(3, "<>", d.v(1), d.v(2), d.say(d.v(3), d.done()))))
		}, `"1" done`, 6 + 2},
		"equals of functions": {func(d *desk) int {
			return d.fix([]int{1}, d.fn(nil, d.done()), d.prim(3, "=", d.v(1), d.v(1), d.done()))
		}, "stuck", 2},
	} {
		d := &desk{}
		root := c.write(d)
		takes(t, name, d.program(root), c.want, c.steps)
	}
}

// P13.3: how runs fail.
func TestFails(t *testing.T) {
	for name, c := range map[string]struct {
		write func(d *desk) int
		want  string
		steps int
	}{
		"a name":              {func(d *desk) int { return d.prim(1, "exn", d.s("E"), d.tuple(2, d.v(1), d.i(0), d.fail(d.v(2)))) }, "uncaught E", 3},
		"an empty name":       {func(d *desk) int { return d.prim(1, "exn", d.s(""), d.tuple(2, d.v(1), d.i(0), d.fail(d.v(2)))) }, "uncaught", 3},
		"behind what is said": {func(d *desk) int { return d.print("a", d.prim(1, "exn", d.s("E"), d.tuple(2, d.v(1), d.fail(d.v(2))))) }, `"a" uncaught E`, 4},
		"a ref of a string":   {func(d *desk) int { return d.prim(1, "ref", d.s("R"), d.tuple(2, d.v(1), d.i(0), d.fail(d.v(2)))) }, "uncaught R", 3},
		"a name that was set": {func(d *desk) int {
			return d.prim(1, "exn", d.s("E"), d.tuple(2, d.v(1), d.i(0), d.prim(3, ":=", d.v(1), d.s("F"), d.fail(d.v(2)))))
		}, "uncaught F", 4},
		"an int":              {func(d *desk) int { return d.fail(d.i(1)) }, "stuck", 1},
		"a string":            {func(d *desk) int { return d.fail(d.s("E")) }, "stuck", 1},
		"a cell":              {func(d *desk) int { return d.prim(1, "exn", d.s("E"), d.fail(d.v(1))) }, "stuck", 2},
		"a tuple of no cell":  {func(d *desk) int { return d.tuple(2, d.s("E"), d.i(0), d.fail(d.v(2))) }, "stuck", 2},
		"a cell of no string": {func(d *desk) int { return d.prim(1, "ref", d.i(1), d.tuple(2, d.v(1), d.i(0), d.fail(d.v(2)))) }, "stuck", 3},
		"a constructor":       {func(d *desk) int { return d.prim(1, "exn", d.s("E"), d.con(2, 0, d.v(1), d.fail(d.v(2)))) }, "stuck", 3},
		"an array of none": {func(d *desk) int {
			return d.prim(1, "array", d.i(0), d.s("E"), d.tuple(2, d.v(1), d.fail(d.v(2))), d.done())
		}, "stuck", 3},
	} {
		d := &desk{}
		root := c.write(d)
		takes(t, name, d.program(root), c.want, c.steps)
	}
}

// P13.3: each code that a primitive may raise, as what its variable is bound to then; all other ends are as chapter 11 says.
func TestCodes(t *testing.T) {
	long := strings.Repeat("a", api.MaxString)
	told := map[int64]bool{}
	for _, c := range []struct {
		name string
		args []any
		code int64
	}{
		{"+", []any{api.MaxFix, 1}, api.XOverflow}, {"-", []any{api.MinFix, 1}, api.XOverflow}, {"*", []any{1 << 31, 1 << 31}, api.XOverflow}, {"~", []any{api.MinFix}, api.XOverflow}, {"abs", []any{api.MinFix}, api.XOverflow},
		{"div", []any{1, 0}, api.XDiv}, {"div", []any{api.MinFix, -1}, api.XOverflow}, {"mod", []any{1, 0}, api.XDiv}, {"quot", []any{1, 0}, api.XDiv}, {"quot", []any{api.MinFix, -1}, api.XOverflow}, {"rem", []any{1, 0}, api.XDiv},
		{"floor", []any{1e300}, api.XOverflow}, {"ceil", []any{-1e300}, api.XOverflow}, {"trunc", []any{1e300}, api.XOverflow}, {"round", []any{1e300}, api.XOverflow},
		{"intScan", []any{"99999999999999999999"}, api.XOverflow}, {"chr", []any{256}, api.XChr}, {"chr", []any{-1}, api.XChr}, {"^", []any{long, "b"}, api.XSize},
		{"sub", []any{"abc", 3}, api.XSubscript}, {"sub", []any{"abc", -1}, api.XSubscript}, {"substring", []any{"abc", 2, 2}, api.XSubscript},
		{"array", []any{-1, 0}, api.XSize}, {"array", []any{api.MaxCells + 1, 0}, api.XSize},
	} {
		d := &desk{}
		var args []int
		for _, a := range c.args {
			args = append(args, d.constant(a))
		}
		args = append(args, d.print("n", d.done()), d.say(d.v(5), d.done()))
		want := string([]byte{'"', byte('0' + c.code), '"'}) + " done"
		takes(t, c.name, d.program(d.prim(5, c.name, args...)), want, 4)
		told[c.code] = true
	}
	// Those that take what other moves have made.
	d := &desk{}
	nan := d.prim(1, "/", d.r(0), d.r(0), d.prim(5, "round", d.v(1), d.done(), d.say(d.v(5), d.done())))
	takes(t, "a NaN", d.program(nan), `"4" done`, 5)
	d = &desk{}
	get := d.prim(1, "array", d.i(2), d.i(7), d.prim(5, "get", d.v(1), d.i(2), d.done(), d.say(d.v(5), d.done())), d.done())
	takes(t, "get", d.program(get), `"8" done`, 5)
	d = &desk{}
	set := d.prim(1, "array", d.i(2), d.i(7), d.prim(5, "set", d.v(1), d.i(-1), d.i(0), d.done(), d.say(d.v(5), d.done())), d.done())
	takes(t, "set", d.program(set), `"8" done`, 5)
	told[api.XDomain] = true
	for _, p := range api.Prims() {
		for _, code := range p.Raises {
			if !told[int64(code)] {
				t.Errorf("%s: no primitive raises %d here", p.Name, code)
			}
		}
	}
}

// constant writes an int, a real or a string.
func (d *desk) constant(v any) int {
	switch x := v.(type) {
	case int:
		return d.i(int64(x))
	case float64:
		return d.r(x)
	}
	return d.s(v.(string))
}

// P13.3: cells are things of their own, whoever has them.
func TestCells(t *testing.T) {
	d := &desk{}
	shown := d.prim(4, "!", d.v(1), d.say(d.v(4), d.prim(5, "=", d.v(1), d.v(2), d.say(d.v(5), d.prim(6, "=", d.v(1), d.v(3), d.say(d.v(6), d.done()))))))
	p := d.program(d.prim(1, "ref", d.i(5), d.prim(2, "ref", d.i(5), d.tuple(7, d.v(1), d.field(3, 0, d.v(7), d.prim(8, ":=", d.v(3), d.i(6), shown))))))
	takes(t, "refs", p, `"6" "0" "1" done`, 15)
	d = &desk{}
	rest := d.prim(3, "set", d.v(1), d.i(1), d.s("b"), d.prim(4, "get", d.v(1), d.i(1), d.prim(5, "print", d.v(4), d.prim(6, "!", d.v(1), d.prim(7, "print", d.v(6), d.prim(8, "length", d.v(1), d.say(d.v(8), d.done()))))), d.done()), d.done())
	takes(t, "an array", d.program(d.prim(1, "array", d.i(3), d.s("a"), rest, d.done())), `"b" "a" "3" done`, 10)
}

// P13.3: fuel is from 0 to MaxFuel, asked behind the program; with 0 nothing is done.
func TestFuel(t *testing.T) {
	d := &desk{}
	p := d.program(d.print("a", d.done()))
	for _, fuel := range []int{-1, -1 << 63, api.MaxFuel + 1, 1<<63 - 1} {
		if o, e := Run(p, nil, fuel); e != api.ErrArg || len(o.Out) != 0 || o.Status != 0 || o.Exn != "" || o.Steps != 0 {
			t.Errorf("with %d: %v, %d", fuel, o, e)
		}
	}
	for fuel, want := range map[int]string{0: "out of fuel", 1: `"a" out of fuel`, 2: `"a" done`, 3: `"a" done`, api.MaxFuel: `"a" done`} {
		if o, e := Run(p, nil, fuel); e != api.OK || showOutcome(o) != want || o.Steps != min(fuel, 2) {
			t.Errorf("with %d: %s, %d steps, %d", fuel, showOutcome(o), o.Steps, e)
		}
	}
}

// P13.3: the steps of `=` are counted one by one, and the run ends ahead of the next one.
func TestFuelOfEquals(t *testing.T) {
	d := &desk{}
	x := d.v(1)
	p := d.program(d.tuple(1, d.i(1), d.i(2), d.i(3), d.tuple(1, x, x, d.print("a", d.prim(2, "=", x, x, d.print("b", d.done()))))))
	takes(t, "a tuple of tuples", p, `"a" "b" done`, 4+8+2)
}

// P13.3: runs that go on without an end, whatever the fuel; calls, functions and cells that nobody has any more cost nothing.
func TestEndless(t *testing.T) {
	const most = 1000000
	for name, c := range map[string]struct {
		body func(d *desk) int // of the function 1 of 2
		out  int               // how many texts
	}{
		"calls":              {func(d *desk) int { return d.call(d.v(1), d.v(2)) }, 0},
		"growing":            {func(d *desk) int { return d.con(3, 1, d.v(2), d.call(d.v(1), d.v(3))) }, 0},
		"tuples":             {func(d *desk) int { return d.tuple(2, d.i(1), d.i(2), d.call(d.v(1), d.v(2))) }, 0},
		"functions":          {func(d *desk) int { return d.fix([]int{3}, d.fn(nil, d.call(d.v(1), d.v(3))), d.call(d.v(1), d.v(3))) }, 0},
		"functions that are": {func(d *desk) int { return d.fix([]int{3}, d.fn(nil, d.call(d.v(1), d.v(3))), d.call(d.v(3))) }, 0},
		"printing":           {func(d *desk) int { return d.print("a", d.call(d.v(1), d.v(2))) }, most / 2},
		"cells": {func(d *desk) int {
			return d.prim(3, "array", d.i(api.MaxCells), d.i(1), d.call(d.v(1), d.v(3)), d.done())
		}, 0},
		"raises": {func(d *desk) int { return d.prim(3, "div", d.i(1), d.i(0), d.done(), d.call(d.v(1), d.v(3))) }, 0},
		"cases":  {func(d *desk) int { return d.choose([]api.Key{kInt(1)}, d.v(2), d.done(), d.call(d.v(1), d.v(2))) }, 0},
		"input":  {func(d *desk) int { return d.prim(3, "input", d.i(0), d.call(d.v(1), d.v(3))) }, 0},
	} {
		d := &desk{}
		p := d.program(d.fix([]int{1}, d.fn([]int{2}, c.body(d)), d.call(d.v(1), d.i(0))))
		for _, fuel := range []int{0, 1, 2, 3, 100, most} {
			o, e := Run(p, nil, fuel)
			if e != api.OK || o.Status != api.OutOfFuel || o.Steps != fuel || o.Exn != "" {
				t.Errorf("%s: %d, %v, %d steps", name, e, o.Status, o.Steps)
			}
			if c.out == 0 && len(o.Out) != 0 || fuel == most && c.out > 0 && (len(o.Out) < c.out-2 || len(o.Out) > c.out) {
				t.Errorf("%s: %d texts", name, len(o.Out))
			}
		}
	}
}

// P13.3: functions wait in one another as deeply as fuel lets them, and come to their end.
func TestDeep(t *testing.T) {
	const deep = 200000
	d := &desk{}
	wait := d.fix([]int{5}, d.fn([]int{6}, d.prim(7, "+", d.v(6), d.i(2), d.call(d.v(3), d.v(7)), d.done())), d.prim(8, "-", d.v(2), d.i(1), d.call(d.v(1), d.v(8), d.v(5)), d.done()))
	body := d.choose([]api.Key{kInt(0)}, d.v(2), d.call(d.v(3), d.i(0)), wait)
	end := d.fn([]int{4}, d.say(d.v(4), d.done()))
	p := d.program(d.fix([]int{1, 9}, d.fn([]int{2, 3}, body), end, d.call(d.v(1), d.i(deep), d.v(9))))
	if o, e := Run(p, nil, 10*deep); e != api.OK || showOutcome(o) != `"400000" done` {
		t.Errorf("%s, %d", showOutcome(o), e)
	}
}

// P13.3: many variables are told apart, in one row of moves and in functions within functions.
func TestManyVariables(t *testing.T) {
	const n = 3000
	d := &desk{}
	rest := d.done()
	for i := range n {
		rest = d.say(d.v(100+i), rest)
	}
	for i := range n {
		rest = d.prim(100+i, "size", d.s(strings.Repeat("a", i%90)), rest)
		if i%500 == 499 {
			rest = d.fix([]int{50000 + i}, d.fn(nil, rest), d.call(d.v(50000+i)))
		}
	}
	o, e := Run(d.program(rest), nil, 100000)
	if e != api.OK || o.Status != api.Done || len(o.Out) != n || o.Steps != 3*n+2*n/500+1 {
		t.Fatalf("%d, %v, %d texts, %d steps", e, o.Status, len(o.Out), o.Steps)
	}
	for i, s := range o.Out {
		if want := (n - 1 - i) % 90; s != text(want) {
			t.Fatalf("the text %d: %s; want %d", i, s, want)
		}
	}
}

func text(n int) string {
	if n < 10 {
		return string(rune('0' + n))
	}
	return text(n/10) + text(n%10)
}

// P13.3: nodes that stand at several places are done at each of them, with what is bound there.
func TestShared(t *testing.T) {
	d := &desk{}
	x := d.field(2, 0, d.v(1), d.say(d.v(2), d.done()))
	branch := func(n int64) int { return d.con(1, 0, d.i(n), x) }
	for n, want := range []string{`"10" done`, `"11" done`, `"12" done`} {
		takes(t, "branches", d.program(d.choose([]api.Key{kInt(0), kInt(1)}, d.i(int64(n)), branch(10), branch(11), branch(12))), want, 6)
	}
	d = &desk{}
	f := d.fn([]int{1}, d.say(d.v(1), d.call(d.v(2), d.i(1))))
	g := d.fn([]int{1}, d.done())
	p := d.program(d.fix([]int{2}, g, d.fix([]int{2}, f, d.fix([]int{2, 3}, g, f, d.call(d.v(3), d.i(5))))))
	takes(t, "functions", p, `"5" done`, 8)
	d = &desk{}
	y := d.done()
	for range 100 {
		y = d.choose([]api.Key{kInt(1)}, d.i(1), y, y)
	}
	takes(t, "at very many places", d.program(y), "done", 101)
}

// P13.3: input, line by line, and its end.
func TestInput(t *testing.T) {
	d := &desk{}
	line := func(rest int) int { return d.prim(1, "input", d.i(0), d.prim(2, "print", d.v(1), rest)) }
	p := d.program(line(line(line(d.done()))))
	takes(t, "two lines", p, `"a\n" "\n" "" done`, 7, "a", "")
	takes(t, "no line", p, `"" "" "" done`, 7)
	takes(t, "more lines", p, `"a\n" "b\n" "c\n" done`, 7, "a", "b", "c", "d")
	long := strings.Repeat("x", api.MaxString)
	o, e := Run(p, []string{long[1:], long, long + "y"}, 100)
	if e != api.OK || len(o.Out) != 3 || o.Out[0] != long[1:]+"\n" || o.Out[1] != long || o.Out[2] != long {
		t.Errorf("long lines: %s, %d", showOutcome(o), e)
	}
	takes(t, "it takes a unit", d.program(d.prim(1, "input", d.s(""), d.done())), "stuck", 1, "a")
}

// The chapter's examples of runs.
func TestExamples(t *testing.T) {
	d := &desk{}
	loop := d.program(d.fix([]int{1}, d.fn([]int{2}, d.call(d.v(1), d.v(2))), d.call(d.v(1), d.i(0))))
	for _, fuel := range []int{0, 1, 2, 3, 5000, 1 << 20} {
		if o, e := Run(loop, nil, fuel); e != api.OK || o.Status != api.OutOfFuel || o.Steps != fuel {
			t.Errorf("2 with %d: %s, %d", fuel, showOutcome(o), e)
		}
	}
	d = &desk{}
	takes(t, "2", d.program(d.call(d.i(0), d.i(0))), "stuck", 1)
	d = &desk{}
	takes(t, "3", d.program(d.prim(9, "div", d.i(1), d.i(0), d.done(), d.say(d.v(9), d.done()))), `"3" done`, 4)
}
