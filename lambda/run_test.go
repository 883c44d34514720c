package lambda

import (
	"strings"
	"testing"

	"kiln/api"
)

// P11.3: what each kind of node does, and in how many steps; with less fuel the run ends ahead of the next one.
func TestNodes(t *testing.T) {
	type run struct {
		write func(d *desk) int
		want  string
		steps int
	}
	for name, c := range map[string]run{
		"int":                 {func(d *desk) int { return d.i(5) }, "done", 1},
		"real":                {func(d *desk) int { return d.r(5) }, "done", 1},
		"string":              {func(d *desk) int { return d.s("a") }, "done", 1},
		"function":            {func(d *desk) int { return d.fn(20, d.v(20)) }, "done", 1},
		"tuple":               {func(d *desk) int { return d.tuple(d.i(5), d.s("a"), d.tuple(d.i(6))) }, "done", 5},
		"constructor":         {func(d *desk) int { return d.con(5, d.con(0, d.i(1))) }, "done", 3},
		"field":               {func(d *desk) int { return d.say(d.field(1, d.tuple(d.i(5), d.i(6), d.i(7)))) }, `"6" done`, 7},
		"last field":          {func(d *desk) int { return d.say(d.field(2, d.tuple(d.i(5), d.i(6), d.i(7)))) }, `"7" done`, 7},
		"no field":            {func(d *desk) int { return d.field(3, d.tuple(d.i(5), d.i(6), d.i(7))) }, "stuck", 5},
		"in a constructor":    {func(d *desk) int { return d.say(d.field(0, d.con(3, d.i(5)))) }, `"5" done`, 5},
		"no field in one":     {func(d *desk) int { return d.field(1, d.con(3, d.i(5))) }, "stuck", 3},
		"field of an int":     {func(d *desk) int { return d.field(0, d.i(5)) }, "stuck", 2},
		"field of a cell":     {func(d *desk) int { return d.field(0, d.prim("ref", d.i(5))) }, "stuck", 3},
		"field of a function": {func(d *desk) int { return d.field(0, d.fn(20, d.i(5))) }, "stuck", 2},
		"variable":            {func(d *desk) int { return d.let(20, d.i(5), d.say(d.v(20))) }, `"5" done`, 5},
		"let of the same":     {func(d *desk) int { return d.let(20, d.i(5), d.let(20, d.con(1, d.v(20)), d.say(d.field(0, d.v(20))))) }, `"5" done`, 9},
		"behind a let":        {func(d *desk) int { return d.let(20, d.i(5), d.say(d.let(21, d.let(20, d.i(6), d.v(20)), d.v(20)))) }, `"5" done`, 9},
		"application":         {func(d *desk) int { return d.say(d.app(d.fn(20, d.v(20)), d.i(5))) }, `"5" done`, 6},
		"both parts first":    {func(d *desk) int { return d.app(d.i(1), d.print("a")) }, `"a" stuck`, 4},
		"from the left":       {func(d *desk) int { return d.app(d.let(20, d.print("a"), d.fn(21, d.print("c"))), d.print("b")) }, `"a" "b" "c" done`, 9},
		"a tuple's parts":     {func(d *desk) int { return d.tuple(d.print("a"), d.print("b"), d.print("c")) }, `"a" "b" "c" done`, 7},
		"a function's own": {func(d *desk) int {
			return d.let(20, d.i(1), d.let(21, d.fn(22, d.v(20)), d.let(20, d.i(2), d.say(d.app(d.v(21), d.v(20))))))
		}, `"1" done`, 12},
		"a function of a function": {func(d *desk) int {
			return d.say(d.app(d.app(d.fn(20, d.fn(21, d.v(20))), d.i(1)), d.i(2)))
		}, `"1" done`, 9},
		"apply a string": {func(d *desk) int { return d.app(d.s("f"), d.i(5)) }, "stuck", 3},
		"apply a tuple":  {func(d *desk) int { return d.app(d.tuple(d.fn(20, d.i(1))), d.i(5)) }, "stuck", 4},
		"fix":            {func(d *desk) int { return d.fix([]int{20}, d.fn(21, d.v(21)), d.say(d.app(d.v(20), d.i(5)))) }, `"5" done`, 7},
		"fix of two": {func(d *desk) int {
			even := d.fn(22, d.choose([]api.Key{kInt(0)}, d.v(22), d.print("even"), d.app(d.v(21), d.field(0, d.v(22)))))
			odd := d.fn(22, d.choose([]api.Key{kInt(0)}, d.v(22), d.print("odd"), d.app(d.v(20), d.field(0, d.v(22)))))
			return d.fix([]int{20, 21}, even, odd, d.app(d.v(20), d.con(1, d.con(1, d.con(1, d.i(0))))))
		}, `"odd" done`, 29},
		"fix of equals": {func(d *desk) int {
			return d.fix([]int{20, 20, 20}, d.fn(21, d.i(1)), d.fn(21, d.i(2)), d.fn(21, d.i(3)), d.say(d.app(d.v(20), d.i(0))))
		}, `"1" done`, 7},
		"fix hides": {func(d *desk) int {
			return d.let(20, d.i(7), d.fix([]int{20}, d.fn(20, d.v(20)), d.say(d.app(d.v(20), d.i(5)))))
		}, `"5" done`, 9},
		"case of an int": {func(d *desk) int {
			return d.choose([]api.Key{kInt(1), kInt(2), kInt(2)}, d.i(2), d.print("a"), d.print("b"), d.print("c"))
		}, `"b" done`, 4},
		"case of all others": {func(d *desk) int {
			return d.choose([]api.Key{kInt(1)}, d.i(2), d.print("a"), d.print("b"))
		}, `"b" done`, 4},
		"case of nothing": {func(d *desk) int { return d.choose([]api.Key{kInt(1)}, d.i(2), d.print("a")) }, "stuck", 2},
		"case without keys": {func(d *desk) int {
			return d.choose(nil, d.tuple(d.i(1)), d.print("a"))
		}, `"a" done`, 5},
		"case of nothing at all": {func(d *desk) int { return d.choose(nil, d.i(1)) }, "stuck", 2},
		"case of a constructor": {func(d *desk) int {
			return d.choose([]api.Key{kInt(2), kStr("2"), kCon(2)}, d.con(2, d.i(0)), d.print("a"), d.print("b"), d.print("c"))
		}, `"c" done`, 5},
		"case of a string": {func(d *desk) int {
			return d.choose([]api.Key{kInt(2), kCon(2), kStr(""), kStr("2")}, d.s("2"), d.i(1), d.i(2), d.i(3), d.print("a"))
		}, `"a" done`, 4},
		"case of a real": {func(d *desk) int {
			return d.choose([]api.Key{kInt(2)}, d.r(2), d.print("a"), d.print("b"))
		}, `"b" done`, 4},
		"case of a function": {func(d *desk) int { return d.choose([]api.Key{kInt(2)}, d.fn(20, d.i(1)), d.print("a")) }, "stuck", 2},
	} {
		d := &desk{}
		root := c.write(d)
		takes(t, name, d.program(root), c.want, c.steps)
	}
}

// P11.3: what is raised, handled, and not.
func TestRaises(t *testing.T) {
	packet := func(d *desk, name string) int { return d.tuple(d.prim("exn", d.s(name)), d.i(0)) }
	for name, c := range map[string]struct {
		write func(d *desk) int
		want  string
		steps int
	}{
		"uncaught":            {func(d *desk) int { return d.raise(packet(d, "E")) }, "uncaught E", 5},
		"no name":             {func(d *desk) int { return d.raise(packet(d, "")) }, "uncaught", 5},
		"behind what it says": {func(d *desk) int { return d.seq(d.print("a"), d.raise(packet(d, "E")), d.print("b")) }, `"a" uncaught E`, 9},
		"another thing":       {func(d *desk) int { return d.raise(d.i(5)) }, "stuck", 2},
		"a cell":              {func(d *desk) int { return d.raise(d.prim("exn", d.s("E"))) }, "stuck", 3},
		"a tuple of no cell":  {func(d *desk) int { return d.raise(d.tuple(d.s("E"), d.i(0))) }, "stuck", 4},
		"a cell of no string": {func(d *desk) int { return d.raise(d.tuple(d.prim("ref", d.i(1)), d.i(0))) }, "stuck", 5},
		"a ref of a string":   {func(d *desk) int { return d.raise(d.tuple(d.prim("ref", d.s("R")))) }, "uncaught R", 4},
		"a name that was set": {func(d *desk) int {
			return d.let(20, packet(d, "E"), d.seq(d.prim(":=", d.field(0, d.v(20)), d.s("F")), d.raise(d.v(20))))
		}, "uncaught F", 12},
		"handled": {func(d *desk) int { return d.say(d.handle(d.raise(d.i(5)), 20, d.v(20))) }, `"5" done`, 6},
		"handled by name": {func(d *desk) int {
			return d.prim("print", d.handle(d.raise(packet(d, "E")), 20, d.prim("!", d.field(0, d.v(20)))))
		}, `"E" done`, 10},
		"nothing to be handled": {func(d *desk) int {
			return d.say(d.handle(d.i(5), 20, d.i(6)))
		}, `"5" done`, 4},
		"the handler is gone": {func(d *desk) int {
			return d.seq(d.handle(d.print("a"), 20, d.print("h")), d.raise(packet(d, "E")))
		}, `"a" uncaught E`, 9},
		"raised in a handler": {func(d *desk) int {
			return d.handle(d.handle(d.raise(d.i(5)), 20, d.raise(d.con(1, d.v(20)))), 21, d.say(d.field(0, d.v(21))))
		}, `"5" done`, 11},
		"raised again": {func(d *desk) int {
			return d.handle(d.raise(packet(d, "E")), 20, d.raise(d.v(20)))
		}, "uncaught E", 8},
		"the inner one": {func(d *desk) int {
			return d.say(d.handle(d.handle(d.raise(d.i(5)), 20, d.i(6)), 20, d.i(7)))
		}, `"6" done`, 7},
		"the outer one": {func(d *desk) int {
			return d.say(d.handle(d.tuple(d.i(1), d.handle(d.i(2), 20, d.i(6)), d.raise(d.i(3))), 20, d.v(20)))
		}, `"3" done`, 10},
		"what waits is gone": {func(d *desk) int {
			return d.say(d.prim("size", d.handle(d.tuple(d.i(1), d.i(2), d.app(d.fn(20, d.tuple(d.i(3), d.raise(d.v(20)))), d.s("abc"))), 21, d.v(21))))
		}, `"3" done`, 15},
		"what waits outside stays": {func(d *desk) int {
			return d.say(d.field(1, d.tuple(d.i(1), d.handle(d.tuple(d.i(2), d.raise(d.i(3))), 20, d.v(20)), d.i(4))))
		}, `"3" done`, 12},
		"in a function called": {func(d *desk) int {
			return d.let(20, d.fn(21, d.raise(d.v(21))), d.say(d.handle(d.app(d.v(20), d.i(5)), 22, d.v(22))))
		}, `"5" done`, 11},
		"the function outside": {func(d *desk) int {
			f := d.handle(d.fn(20, d.raise(d.v(20))), 21, d.print("h"))
			return d.app(f, packet(d, "E"))
		}, "uncaught E", 9},
		"a handler's scope": {func(d *desk) int {
			return d.let(20, d.i(1), d.handle(d.let(20, d.i(2), d.raise(d.v(20))), 21, d.say(d.v(20))))
		}, `"1" done`, 10},
		"its own name there": {func(d *desk) int {
			return d.let(20, d.i(1), d.handle(d.raise(d.v(20)), 20, d.say(d.field(0, d.con(0, d.v(20))))))
		}, `"1" done`, 10},
		"a raise in a raise": {func(d *desk) int {
			return d.say(d.handle(d.raise(d.raise(d.i(5))), 20, d.v(20)))
		}, `"5" done`, 7},
		"a raise in a case": {func(d *desk) int {
			return d.handle(d.choose(nil, d.raise(d.i(1)), d.print("a")), 20, d.print("b"))
		}, `"b" done`, 6},
		"stuck is not handled": {func(d *desk) int { return d.handle(d.app(d.i(1), d.i(2)), 20, d.print("h")) }, "stuck", 4},
	} {
		d := &desk{}
		root := c.write(d)
		takes(t, name, d.program(root), c.want, c.steps)
	}
}

// P11.3: a primitive raises what its exception's variable is bound to where it stands, and 0.
func TestCodes(t *testing.T) {
	d := &desk{}
	div := func() int { return d.prim("div", d.i(1), d.i(0)) }
	takes(t, "uncaught", d.whole(div()), "uncaught Div", aroundNames+3)
	d = &desk{}
	takes(t, "handled", d.whole(d.handle(div(), 20, d.tuple(d.prim("print", d.prim("!", d.field(0, d.v(20)))), d.say(d.field(1, d.v(20)))))), `"Div" "0" done`, aroundNames+4+9)
	d = &desk{}
	takes(t, "the same cell", d.whole(d.handle(div(), 20, d.say(d.prim("=", d.field(0, d.v(20)), d.v(3))))), `"1" done`, aroundNames+4+6)
	d = &desk{}
	takes(t, "another cell there", d.whole(d.let(3, d.prim("exn", d.s("Mine")), div())), "uncaught Mine", aroundNames+6)
	d = &desk{}
	takes(t, "a name outside", d.whole(d.let(20, d.fn(21, div()), d.let(3, d.prim("exn", d.s("Mine")), d.app(d.v(20), d.i(0))))), "uncaught Div", aroundNames+11)
	d = &desk{}
	takes(t, "no cell", d.whole(d.let(3, d.i(5), d.handle(div(), 20, d.say(d.field(0, d.v(20)))))), `"5" done`, aroundNames+2+4+4)
	d = &desk{}
	takes(t, "no cell, uncaught", d.whole(d.let(3, d.i(5), div())), "stuck", aroundNames+5)
	d = &desk{}
	takes(t, "a function", d.whole(d.fix([]int{3}, d.fn(20, d.v(20)), d.handle(div(), 20, d.say(d.app(d.field(0, d.v(20)), d.i(4)))))), `"4" done`, aroundNames+1+4+7)
	d = &desk{}
	takes(t, "a function's argument", d.whole(d.app(d.fn(3, div()), d.prim("ref", d.s("Arg")))), "uncaught Arg", aroundNames+7)
	d = &desk{}
	takes(t, "a handler's", d.whole(d.handle(d.raise(d.prim("exn", d.s("Caught"))), 3, div())), "uncaught Caught", aroundNames+7)
}

// P11.3: fuel is from 0 to MaxFuel, asked behind the program; with 0 nothing is begun.
func TestFuel(t *testing.T) {
	d := &desk{}
	p := d.program(d.print("a"))
	for _, fuel := range []int{-1, -1 << 63, api.MaxFuel + 1, 1<<63 - 1} {
		if o, e := Run(p, nil, fuel); e != api.ErrArg || len(o.Out) != 0 || o.Status != 0 || o.Exn != "" || o.Steps != 0 {
			t.Errorf("with %d: %v, %d", fuel, o, e)
		}
	}
	for fuel, want := range map[int]string{0: "out of fuel", 1: "out of fuel", 2: `"a" done`, 3: `"a" done`, api.MaxFuel: `"a" done`} {
		if o, e := Run(p, nil, fuel); e != api.OK || showOutcome(o) != want || o.Steps != min(fuel, 2) {
			t.Errorf("with %d: %s, %d steps, %d", fuel, showOutcome(o), o.Steps, e)
		}
	}
}

// P11.3: runs that go on without an end, by calls at a function's end or by such as wait, in functions, in handlers, in what is raised.
func TestEndless(t *testing.T) {
	const fuel = 1000000
	for name, c := range map[string]struct {
		body func(d *desk) int // of the function 20 of 21
		out  int               // how many texts
	}{
		"at the end":         {func(d *desk) int { return d.app(d.v(20), d.v(21)) }, 0},
		"in a tuple":         {func(d *desk) int { return d.tuple(d.v(21), d.app(d.v(20), d.v(21))) }, 0},
		"growing":            {func(d *desk) int { return d.app(d.v(20), d.con(1, d.v(21))) }, 0},
		"in a let":           {func(d *desk) int { return d.let(22, d.app(d.v(20), d.v(21)), d.v(22)) }, 0},
		"at a let's end":     {func(d *desk) int { return d.let(22, d.v(21), d.app(d.v(20), d.v(22))) }, 0},
		"in a case":          {func(d *desk) int { return d.choose(nil, d.app(d.v(20), d.v(21)), d.v(21)) }, 0},
		"at a case's end":    {func(d *desk) int { return d.choose(nil, d.v(21), d.app(d.v(20), d.v(21))) }, 0},
		"in a handle":        {func(d *desk) int { return d.handle(d.app(d.v(20), d.v(21)), 22, d.v(22)) }, 0},
		"in a raise":         {func(d *desk) int { return d.raise(d.app(d.v(20), d.v(21))) }, 0},
		"at a handler's end": {func(d *desk) int { return d.handle(d.raise(d.v(21)), 22, d.app(d.v(20), d.v(22))) }, 0},
		"printing":           {func(d *desk) int { return d.seq(d.print("a"), d.app(d.v(20), d.v(21))) }, fuel / 6},
		"making functions":   {func(d *desk) int { return d.app(d.v(20), d.fn(22, d.v(21))) }, 0},
		"making fixes":       {func(d *desk) int { return d.fix([]int{22}, d.fn(23, d.app(d.v(20), d.v(22))), d.app(d.v(22), d.v(21))) }, 0},
		"making cells":       {func(d *desk) int { return d.app(d.v(20), d.prim("array", d.i(api.MaxCells), d.v(21))) }, 0},
	} {
		d := &desk{}
		p := d.whole(d.fix([]int{20}, d.fn(21, c.body(d)), d.app(d.v(20), d.i(0))))
		for _, fuel := range []int{0, 1, 27, 28, 29, 100, fuel} {
			o, e := Run(p, nil, fuel)
			if e != api.OK || o.Status != api.OutOfFuel || o.Steps != fuel || o.Exn != "" {
				t.Errorf("%s: %d, %v, %d steps", name, e, o.Status, o.Steps)
			}
			if c.out == 0 && len(o.Out) != 0 || fuel == 1000000 && c.out > 0 && (len(o.Out) < c.out-6 || len(o.Out) > c.out) {
				t.Errorf("%s: %d texts", name, len(o.Out))
			}
		}
	}
}

// P11.3: what waits may be nested as deeply as fuel lets it, in handlers, too, and comes to its end.
func TestDeep(t *testing.T) {
	const deep = 200000
	count := func(d *desk, base, in int) api.Lambda {
		body := d.choose([]api.Key{kInt(0)}, d.v(21), base, in)
		return d.whole(d.fix([]int{20}, d.fn(21, body), d.say(d.app(d.v(20), d.i(deep)))))
	}
	down := func(d *desk) int { return d.app(d.v(20), d.prim("-", d.v(21), d.i(1))) }
	for name, c := range map[string]struct {
		write func(d *desk) api.Lambda
		want  string
	}{
		"sums": {func(d *desk) api.Lambda { return count(d, d.i(0), d.prim("+", d.i(2), down(d))) }, `"400000" done`},
		"lets": {func(d *desk) api.Lambda { return count(d, d.i(1), d.let(22, down(d), d.prim("+", d.v(21), d.v(22)))) }, `"20000100001" done`},
		"handlers": {func(d *desk) api.Lambda {
			return count(d, d.raise(d.i(0)), d.handle(down(d), 22, d.raise(d.prim("+", d.v(22), d.i(1)))))
		}, "stuck"},
		"the outermost handler": {func(d *desk) api.Lambda {
			p := count(d, d.raise(d.i(7)), d.tuple(d.i(1), down(d)))
			return d.whole(d.handle(p.Root, 23, d.say(d.v(23))))
		}, `"7" done`},
		"handlers that stay": {func(d *desk) api.Lambda { return count(d, d.i(5), d.handle(down(d), 22, d.i(6))) }, `"5" done`},
	} {
		p := c.write(&desk{})
		if o, e := Run(p, nil, 50*deep); e != api.OK || showOutcome(o) != c.want {
			t.Errorf("%s: %s, %d", name, showOutcome(o), e)
		}
	}
}

// P11.3: nodes that stand at several places are begun at each of them, with what is bound there.
func TestShared(t *testing.T) {
	d := &desk{}
	x := d.say(d.v(20))
	takes(t, "in other scopes", d.program(d.tuple(d.let(20, d.i(1), x), d.let(20, d.i(2), x), d.app(d.fn(20, x), d.i(3)), d.handle(d.raise(d.i(4)), 20, x), d.let(20, d.i(5), d.tuple(x, d.let(20, d.i(6), x), x)))), `"1" "2" "3" "4" "5" "6" "5" done`, 37)

	d = &desk{}
	f := d.fn(21, d.tuple(d.say(d.v(20)), d.say(d.v(21))))
	takes(t, "a function", d.program(d.tuple(d.let(20, d.i(1), d.app(f, d.i(2))), d.let(20, d.i(3), d.app(f, d.i(4))))), `"1" "2" "3" "4" done`, 25)

	d = &desk{}
	y := d.print("a")
	for range 10 {
		y = d.tuple(y, y)
	}
	if o := does(t, "over and over", d.program(y), strings.TrimSpace(strings.Repeat(`"a" `, 1024))+" done"); o.Steps != 2*1024+1023 {
		t.Errorf("%d steps", o.Steps)
	}

	d = &desk{}
	z := d.v(20)
	for range 100 {
		z = d.fn(20, d.app(z, d.let(20, z, z)))
	}
	if e := Check(d.program(d.fn(20, z))); e != api.OK {
		t.Errorf("Check: %d", e)
	}
	w := d.i(1)
	for range 100 {
		w = d.tuple(w, w, w)
	}
	if o, e := Run(d.program(w), nil, 100000); e != api.OK || o.Status != api.OutOfFuel || o.Steps != 100000 {
		t.Errorf("%v, %d", o, e)
	}
}

// P11.3: input, line by line, and its end.
func TestInput(t *testing.T) {
	d := &desk{}
	line := func() int { return d.prim("print", d.prim("input", d.i(0))) }
	p := d.program(d.tuple(line(), line(), line()))
	takes(t, "two lines", p, `"a\n" "\n" "" done`, 10, "a", "")
	takes(t, "no line", p, `"" "" "" done`, 10)
	takes(t, "more lines", p, `"a\n" "b\n" "c\n" done`, 10, "a", "b", "c", "d")
	long := strings.Repeat("x", api.MaxString)
	o, e := Run(p, []string{long[1:], long, long + "y"}, 100)
	if e != api.OK || len(o.Out) != 3 || o.Out[0] != long[1:]+"\n" || o.Out[1] != long || o.Out[2] != long {
		t.Errorf("long lines: %s, %d", showOutcome(o), e)
	}
	takes(t, "it takes a unit", d.program(d.prim("input", d.s(""))), "stuck", 2, "a")
}

// The chapter's examples.
func TestExamples(t *testing.T) {
	d := &desk{}
	square := d.fn(20, d.prim("*", d.v(20), d.v(20)))
	takes(t, "1", d.program(d.let(6, d.prim("exn", d.s("Overflow")), d.app(square, d.i(7)))), "done", 9)
	d = &desk{}
	names := func(a int) api.Lambda {
		return d.program(d.let(3, d.prim("exn", d.s("Div")), d.let(6, d.prim("exn", d.s("Overflow")), a)))
	}
	takes(t, "2", names(d.prim("div", d.i(1), d.i(0))), "uncaught Div", 9)
	takes(t, "2, handled", names(d.handle(d.prim("div", d.i(1), d.i(0)), 20, d.tuple(d.prim("print", d.prim("!", d.field(0, d.v(20)))), d.say(d.field(1, d.v(20)))))), `"Div" "0" done`, 19)
}
