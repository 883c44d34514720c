package cps

import (
	"math/rand"
	"slices"
	"strings"
	"testing"

	"kiln/api"
	"kiln/lambda"
)

// ended tells whether a run came to an end by itself, and not for want of anything.
func ended(o api.Outcome) bool { return o.Status == api.Done || o.Status == api.Uncaught }

// alike tells whether two runs printed the same and ended alike.
func alike(a, b api.Outcome) bool {
	return slices.Equal(a.Out, b.Out) && a.Status == b.Status && a.Exn == b.Exn
}

// reached is of how many nodes a program's root is made, itself among them.
func reached(p api.Lambda) int {
	made := make([]bool, p.Root+1)
	made[p.Root] = true
	n := 0
	for i := p.Root; i >= 0; i-- {
		if !made[i] {
			continue
		}
		n++
		if p.Nodes[i].Kind >= api.LTuple {
			for _, a := range p.Nodes[i].Args {
				made[a] = true
			}
		}
	}
	return n
}

// unfolded is how many nodes a program has, written out, up to a bound.
func unfolded(p api.Lambda) int {
	const bound = 1 << 40
	size := make([]int, p.Root+1)
	for i := range size {
		size[i] = 1
		if p.Nodes[i].Kind >= api.LTuple {
			for _, a := range p.Nodes[i].Args {
				if a < i {
					size[i] = min(bound, size[i]+size[a])
				}
			}
		}
	}
	return size[p.Root]
}

// converts is what a program becomes, which Check takes.
func converts(t *testing.T, name string, p api.Lambda) api.Cps {
	t.Helper()
	q, e := Convert(p)
	if e != api.OK {
		t.Fatalf("%s: Convert: %d", name, e)
	}
	if e := Check(q); e != api.OK || len(q.Nodes) > api.MaxNodes {
		t.Fatalf("%s: converted, %d of %d nodes", name, e, len(q.Nodes))
	}
	return q
}

// meets holds a program against what it became, with so many steps, one way.
func meets(t *testing.T, name string, p api.Lambda, q api.Cps, input []string, fuel int) api.Outcome {
	t.Helper()
	a, e := lambda.Run(p, input, fuel)
	if e != api.OK {
		t.Fatalf("%s: lambda.Run: %d", name, e)
	}
	b, e := Run(q, input, 32*(fuel+1))
	if e != api.OK {
		t.Fatalf("%s: Run: %d", name, e)
	}
	if ended(a) && !alike(a, b) || a.Status == api.OutOfFuel && !begins(a.Out, b.Out) {
		t.Fatalf("%s with %d: %s; converted: %s", name, fuel, showOutcome(a), showOutcome(b))
	}
	return a
}

// meetsBack holds what a program became against it, with so many steps, the other way.
func meetsBack(t *testing.T, name string, p api.Lambda, q api.Cps, input []string, fuel int) {
	t.Helper()
	b, _ := Run(q, input, fuel)
	if !ended(b) {
		return
	}
	a, _ := lambda.Run(p, input, min(api.MaxFuel, (reached(p)+32)*(fuel+1)))
	if !alike(a, b) && a.Status != api.Stuck {
		t.Fatalf("%s, converted, with %d: %s; itself: %s", name, fuel, showOutcome(b), showOutcome(a))
	}
}

// held holds a program against what it becomes, both ways, with many numbers of steps.
func held(t *testing.T, name string, p api.Lambda, input []string, most int) (api.Outcome, api.Cps) {
	t.Helper()
	q := converts(t, name, p)
	last := meets(t, name, p, q, input, most)
	b, _ := Run(q, input, 32*(most+1))
	if last.Status == api.Stuck && b.Status != api.Stuck { // more than the chapter asks
		t.Fatalf("%s: stuck; converted: %s", name, showOutcome(b))
	}
	times := 12
	if len(q.Nodes) > 5000 {
		times = 3
	}
	for i := range times {
		meets(t, name, p, q, input, last.Steps*i/(times-1))
		meetsBack(t, name, p, q, input, b.Steps*i/(times-1))
		meets(t, name, p, q, input, min(i, most))
		meetsBack(t, name, p, q, input, b.Steps+i)
	}
	return last, q
}

// P13.4: each kind of term, held both ways against what it becomes, with each number of steps.
func TestConvertNodes(t *testing.T) {
	packet := func(d *pen, name string) int { return d.tuple(d.prim("exn", d.s(name)), d.i(0)) }
	for name, c := range map[string]struct {
		write func(d *pen) int
		want  string
	}{
		"int":              {func(d *pen) int { return d.i(5) }, "done"},
		"real":             {func(d *pen) int { return d.prim("print", d.prim("realText", d.r(0.5))) }, `"0.5" done`},
		"string":           {func(d *pen) int { return d.print("a") }, `"a" done`},
		"function":         {func(d *pen) int { return d.fn(20, d.v(20)) }, "done"},
		"tuple":            {func(d *pen) int { return d.tuple(d.print("a"), d.tuple(d.print("b"), d.i(1)), d.print("c")) }, `"a" "b" "c" done`},
		"field":            {func(d *pen) int { return d.say(d.field(1, d.tuple(d.i(5), d.i(6), d.i(7)))) }, `"6" done`},
		"no field":         {func(d *pen) int { return d.seq(d.print("a"), d.field(3, d.tuple(d.i(5)))) }, `"a" stuck`},
		"constructor":      {func(d *pen) int { return d.say(d.field(0, d.con(1<<40, d.i(5)))) }, `"5" done`},
		"let":              {func(d *pen) int { return d.let(20, d.i(5), d.let(20, d.con(1, d.v(20)), d.say(d.field(0, d.v(20))))) }, `"5" done`},
		"behind a let":     {func(d *pen) int { return d.let(20, d.i(5), d.say(d.let(21, d.let(20, d.i(6), d.v(20)), d.v(20)))) }, `"5" done`},
		"application":      {func(d *pen) int { return d.say(d.app(d.fn(20, d.prim("*", d.v(20), d.v(20))), d.i(5))) }, `"25" done`},
		"both parts first": {func(d *pen) int { return d.app(d.i(1), d.print("a")) }, `"a" stuck`},
		"of a function": {func(d *pen) int {
			return d.say(d.app(d.app(d.fn(20, d.fn(21, d.prim("-", d.v(20), d.v(21)))), d.i(1)), d.i(3)))
		}, `"~2" done`},
		"a function's own": {func(d *pen) int {
			return d.let(20, d.i(1), d.let(21, d.fn(22, d.v(20)), d.let(20, d.i(2), d.say(d.app(d.v(21), d.v(20))))))
		}, `"1" done`},
		"fix": {func(d *pen) int {
			even := d.fn(22, d.choose([]api.Key{kInt(0)}, d.v(22), d.print("even"), d.app(d.v(21), d.field(0, d.v(22)))))
			odd := d.fn(22, d.choose([]api.Key{kInt(0)}, d.v(22), d.print("odd"), d.app(d.v(20), d.field(0, d.v(22)))))
			return d.fix([]int{20, 21}, even, odd, d.app(d.v(20), d.con(1, d.con(1, d.con(1, d.i(0))))))
		}, `"odd" done`},
		"fix of equals": {func(d *pen) int {
			return d.fix([]int{20, 22, 20}, d.fn(21, d.i(1)), d.fn(21, d.app(d.v(20), d.i(0))), d.fn(21, d.i(3)), d.say(d.tupleOf(d.app(d.v(20), d.i(0)), d.app(d.v(22), d.i(0)))))
		}, `"11" done`},
		"fix hides": {func(d *pen) int {
			return d.let(20, d.i(7), d.fix([]int{20}, d.fn(20, d.v(20)), d.say(d.app(d.v(20), d.i(5)))))
		}, `"5" done`},
		"case": {func(d *pen) int {
			ask := func(a int) int {
				return d.choose([]api.Key{kInt(2), kCon(2), kStr("2"), kInt(2)}, a, d.print("a"), d.print("b"), d.print("c"), d.print("d"), d.print("e"))
			}
			return d.tuple(ask(d.i(2)), ask(d.con(2, d.i(2))), ask(d.s("2")), ask(d.i(3)), ask(d.r(2)), ask(d.s("")))
		}, `"a" "b" "c" "e" "e" "e" done`},
		"case of nothing":     {func(d *pen) int { return d.tuple(d.print("a"), d.choose([]api.Key{kInt(1)}, d.i(2), d.print("b"))) }, `"a" stuck`},
		"case of nothing all": {func(d *pen) int { return d.tuple(d.print("a"), d.choose(nil, d.print("b"))) }, `"a" "b" stuck`},
		"case without keys":   {func(d *pen) int { return d.tuple(d.choose(nil, d.print("a"), d.print("b")), d.print("c")) }, `"a" "b" "c" done`},
		"case's value":        {func(d *pen) int { return d.say(d.choose([]api.Key{kInt(1)}, d.i(2), d.i(3), d.i(4))) }, `"4" done`},
		"raise":               {func(d *pen) int { return d.seq(d.print("a"), d.raise(packet(d, "E")), d.print("b")) }, `"a" uncaught E`},
		"raise of no name":    {func(d *pen) int { return d.raise(packet(d, "")) }, "uncaught"},
		"raise of an int":     {func(d *pen) int { return d.seq(d.print("a"), d.raise(d.i(5))) }, `"a" stuck`},
		"raise in a function": {func(d *pen) int { return d.let(20, d.fn(21, d.raise(d.v(21))), d.say(d.app(d.v(20), packet(d, "F")))) }, "uncaught F"},
		"a name that was set": {func(d *pen) int {
			return d.let(20, packet(d, "E"), d.seq(d.prim(":=", d.field(0, d.v(20)), d.s("F")), d.raise(d.v(20))))
		}, "uncaught F"},
		"handle": {func(d *pen) int { return d.say(d.handle(d.raise(d.i(5)), 20, d.v(20))) }, `"5" done`},
		"handle of nothing": {func(d *pen) int {
			return d.say(d.handle(d.i(5), 20, d.i(6)))
		}, `"5" done`},
		"the handler is gone": {func(d *pen) int {
			return d.seq(d.handle(d.print("a"), 20, d.print("h")), d.raise(packet(d, "E")))
		}, `"a" uncaught E`},
		"raised in a handler": {func(d *pen) int {
			return d.handle(d.handle(d.raise(d.i(5)), 20, d.raise(d.con(1, d.v(20)))), 21, d.say(d.field(0, d.v(21))))
		}, `"5" done`},
		"the inner one": {func(d *pen) int {
			return d.say(d.handle(d.handle(d.raise(d.i(5)), 20, d.i(6)), 20, d.i(7)))
		}, `"6" done`},
		"what waits is gone": {func(d *pen) int {
			return d.say(d.prim("size", d.handle(d.tuple(d.i(1), d.i(2), d.app(d.fn(20, d.tuple(d.i(3), d.raise(d.v(20)))), d.s("abc"))), 21, d.v(21))))
		}, `"3" done`},
		"what waits outside": {func(d *pen) int {
			return d.say(d.field(1, d.tuple(d.i(1), d.handle(d.tuple(d.i(2), d.raise(d.i(3))), 20, d.v(20)), d.i(4))))
		}, `"3" done`},
		"a function outside": {func(d *pen) int {
			f := d.handle(d.fn(20, d.raise(d.v(20))), 21, d.print("h"))
			return d.app(f, packet(d, "E"))
		}, "uncaught E"},
		"a handler's scope": {func(d *pen) int {
			return d.let(20, d.i(1), d.handle(d.let(20, d.i(2), d.raise(d.v(20))), 21, d.say(d.v(20))))
		}, `"1" done`},
		"a handler's own": {func(d *pen) int {
			return d.let(20, d.i(1), d.handle(d.raise(d.con(1, d.v(20))), 20, d.say(d.field(0, d.v(20)))))
		}, `"1" done`},
		"a raise in a raise": {func(d *pen) int {
			return d.say(d.handle(d.raise(d.raise(d.i(5))), 20, d.v(20)))
		}, `"5" done`},
		"stuck in a handle": {func(d *pen) int { return d.handle(d.app(d.i(1), d.i(2)), 20, d.print("h")) }, "stuck"},
		"input": {func(d *pen) int {
			line := func() int { return d.prim("print", d.prim("input", d.i(0))) }
			return d.tuple(line(), line(), line())
		}, `"x\n" "\n" "" done`},
		"equals":        {func(d *pen) int { x := d.tuple(d.i(1), d.s("a"), d.con(1, d.i(2))); return d.say(d.prim("=", x, x)) }, `"1" done`},
		"two functions": {func(d *pen) int { return d.seq(d.print("a"), d.prim("=", d.fn(1, d.v(1)), d.i(1))) }, `"a" stuck`},
		"a cell": {func(d *pen) int {
			return d.let(20, d.prim("ref", d.i(1)), d.let(21, d.v(20), d.seq(d.prim(":=", d.v(21), d.i(2)), d.say(d.prim("!", d.v(20))))))
		}, `"2" done`},
		"a printed unit": {func(d *pen) int { return d.say(d.print("a")) }, `"a" "0" done`},
		"a variable far": {func(d *pen) int { return d.let(1<<63-1, d.i(4), d.let(0, d.i(5), d.say(d.v(1<<63-1)))) }, `"4" done`},
		"nobody wants it": {func(d *pen) int {
			return d.let(20, d.print("a"), d.let(21, d.i(1), d.app(d.fn(22, d.print("b")), d.i(3))))
		}, `"a" "b" done`},
	} {
		d := &pen{}
		p := d.whole(c.write(d))
		last, q := held(t, name, p, []string{"x", ""}, 1000)
		if got := showOutcome(last); got != c.want {
			t.Errorf("%s: %s; want %s", name, got, c.want)
		}
		for fuel := range 24 + 40 {
			meets(t, name, p, q, []string{"x", ""}, fuel)
			meetsBack(t, name, p, q, []string{"x", ""}, fuel)
		}
	}
}

// tupleOf is a number of two ints below 10.
func (p *pen) tupleOf(a, b int) int {
	return p.app(p.fn(6, p.prim("+", p.prim("*", p.i(10), a), b)), p.i(0))
}

// P13.4: each code of each primitive, uncaught and handled, raised by what the variable is bound to where it stands.
func TestConvertCodes(t *testing.T) {
	for _, c := range []struct {
		name string
		args []any
		want string
	}{
		{"+", []any{api.MaxFix, 1}, "Overflow"}, {"div", []any{1, 0}, "Div"}, {"div", []any{api.MinFix, -1}, "Overflow"}, {"mod", []any{1, 0}, "Div"}, {"floor", []any{1e300}, "Overflow"},
		{"intScan", []any{"99999999999999999999"}, "Overflow"}, {"chr", []any{256}, "Chr"}, {"^", []any{strings.Repeat("a", api.MaxString), "b"}, "Size"}, {"sub", []any{"abc", 3}, "Subscript"}, {"array", []any{-1, 0}, "Size"},
	} {
		prim := func(d *pen) int {
			var args []int
			for _, a := range c.args {
				switch x := a.(type) {
				case int:
					args = append(args, d.i(int64(x)))
				case float64:
					args = append(args, d.r(x))
				case string:
					args = append(args, d.s(x))
				}
			}
			return d.prim(c.name, args...)
		}
		code := 1 + slices.Index(exnNames(), c.want)
		for _, x := range []struct {
			want  string
			write func(d *pen) int
		}{
			{"uncaught " + c.want, prim},
			{`"` + c.want + `" "0" done`, func(d *pen) int {
				return d.handle(prim(d), 20, d.seq(d.prim("print", d.prim("!", d.field(0, d.v(20)))), d.say(d.field(1, d.v(20)))))
			}},
			{`"1" done`, func(d *pen) int { return d.handle(prim(d), 20, d.say(d.prim("=", d.field(0, d.v(20)), d.v(code)))) }},
			{"uncaught Mine", func(d *pen) int { return d.let(code, d.prim("exn", d.s("Mine")), prim(d)) }},
			{"uncaught " + c.want, func(d *pen) int {
				return d.let(20, d.fn(21, prim(d)), d.let(code, d.prim("exn", d.s("Mine")), d.app(d.v(20), d.i(0))))
			}},
			{"stuck", func(d *pen) int { return d.let(code, d.i(5), prim(d)) }},
			{`"5" done`, func(d *pen) int { return d.let(code, d.i(5), d.handle(prim(d), 20, d.say(d.field(0, d.v(20))))) }},
			{"uncaught Arg", func(d *pen) int { return d.app(d.fn(code, prim(d)), d.prim("ref", d.s("Arg"))) }},
			{"uncaught Caught", func(d *pen) int { return d.handle(d.raise(d.prim("exn", d.s("Caught"))), code, prim(d)) }},
			{`"a" uncaught ` + c.want, func(d *pen) int { return d.tuple(d.print("a"), prim(d), d.print("b")) }},
			{`"a" "b" uncaught ` + c.want, func(d *pen) int {
				return d.handle(d.tuple(d.print("a"), prim(d)), 20, d.seq(d.print("b"), d.raise(d.v(20))))
			}},
		} {
			d := &pen{}
			if last, _ := held(t, c.name+": "+x.want, d.whole(x.write(d)), nil, 1000); showOutcome(last) != x.want {
				t.Errorf("%s: %s; want %s", c.name, showOutcome(last), x.want)
			}
		}
	}
}

// wild is a program at random; of some of them a node has another type than it must.
func wild(seed int64) api.Lambda {
	r := rand.New(rand.NewSource(seed))
	g := &grower{pen: &pen{}, r: r}
	if r.Intn(3) == 0 {
		g.wrong = 60
	}
	return g.program(2 + r.Intn(6))
}

// P13.4, P13.5: programs at random, which have nodes at several places, do what they did; and what they become does as the words of the chapter say.
func TestConvertRandom(t *testing.T) {
	t.Parallel()
	ends, converted := map[api.Status]int{}, 0
	for seed := range int64(400) {
		p := wild(seed)
		if unfolded(p) > 8192 {
			if _, e := Convert(p); e != api.OK {
				continue
			}
		}
		converted++
		last, q := held(t, "seed "+text(int(seed)), p, lines(), 700)
		ends[last.Status]++
		if seed%4 == 0 {
			o := heldRun(t, seed, q, 3000)
			heldRun(t, seed, q, o.Steps/2)
		}
	}
	for _, s := range []api.Status{api.Done, api.Uncaught, api.OutOfFuel, api.Stuck} {
		if ends[s] < 10 || converted < 350 {
			t.Errorf("few programs end so: %v of %d", ends, converted)
		}
	}
	t.Log(ends, converted)
}

// P13.4: errors of the program, before all others, and nothing beside them.
func TestConvertErrors(t *testing.T) {
	filler := make([]api.Term, api.MaxNodes)
	v, none := api.Term{Kind: api.LVar, N: 1}, api.Term{Kind: api.LTuple}
	for name, c := range map[string]struct {
		p    api.Lambda
		want api.Errno
	}{
		"no nodes":       {api.Lambda{}, api.ErrTerm},
		"no root":        {api.Lambda{Nodes: []api.Term{{Kind: api.LInt}}, Root: 1}, api.ErrTerm},
		"no form":        {api.Lambda{Nodes: []api.Term{none}}, api.ErrTerm},
		"no primitive":   {api.Lambda{Nodes: []api.Term{{Kind: api.LPrim, N: -1}}}, api.ErrPrims},
		"free":           {api.Lambda{Nodes: []api.Term{v}}, api.ErrFree},
		"a free name":    {api.Lambda{Nodes: []api.Term{{Kind: api.LInt}, {Kind: api.LPrim, N: placeOf("+"), Args: []int{0, 0}}}, Root: 1}, api.ErrFree},
		"many":           {api.Lambda{Nodes: append(filler, api.Term{Kind: api.LInt}), Root: api.MaxNodes}, api.ErrMany},
		"many and free":  {api.Lambda{Nodes: append([]api.Term{v}, filler...)}, api.ErrMany},
		"form and free":  {api.Lambda{Nodes: []api.Term{v, none, {Kind: api.LApp, Args: []int{0, 1}}}, Root: 2}, api.ErrTerm},
		"prim and free":  {api.Lambda{Nodes: []api.Term{v, {Kind: api.LPrim, N: -1}, {Kind: api.LApp, Args: []int{0, 1}}}, Root: 2}, api.ErrPrims},
		"prim and form":  {api.Lambda{Nodes: []api.Term{none, {Kind: api.LPrim, N: -1}, {Kind: api.LApp, Args: []int{1, 0}}}, Root: 2}, api.ErrTerm},
		"prim and many":  {api.Lambda{Nodes: append([]api.Term{{Kind: api.LPrim, N: -1}}, filler...)}, api.ErrPrims},
		"large and free": {api.Lambda{Nodes: doubled(60, v, api.LTuple).Nodes, Root: 60}, api.ErrFree},
	} {
		if q, e := Convert(c.p); e != c.want || len(q.Nodes) != 0 || q.Root != 0 {
			t.Errorf("%s: %d nodes, %d, %d; want %d", name, len(q.Nodes), q.Root, e, c.want)
		}
	}
}

// doubled is a program of so many nodes of a kind, each of the one ahead twice, over a node.
func doubled(n int, first api.Term, kind api.TermKind) api.Lambda {
	l := []api.Term{first}
	for i := range n {
		l = append(l, api.Term{Kind: kind, Args: []int{i, i}})
	}
	return api.Lambda{Nodes: l, Root: n}
}

// P13.4: the chapter's first example: an int is a halt.
func TestConvertExample(t *testing.T) {
	for _, x := range []api.Term{{Kind: api.LInt, Int: 5}, {Kind: api.LReal, Bits: 7}, {Kind: api.LStr, Text: "a"}} {
		q := converts(t, "an atom", api.Lambda{Nodes: []api.Term{{}, x}, Root: 1})
		root := q.Nodes[q.Root]
		if root.Kind != api.JHalt {
			t.Fatalf("%v", q)
		}
		atom := q.Nodes[root.Args[0]]
		if atom.Int != x.Int || atom.Bits != x.Bits || atom.Text != x.Text || int(atom.Kind) != int(x.Kind) {
			t.Errorf("%v of %v", atom, x)
		}
	}
	d := &pen{}
	q := converts(t, "an application", d.program(d.app(d.fn(1, d.v(1)), d.i(5))))
	called := func(f api.Flow) bool { return f.Kind == api.JCall && len(f.Args) == 4 }
	if !slices.ContainsFunc(q.Nodes, called) {
		t.Errorf("%v", q)
	}
}
