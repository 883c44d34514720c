package lambda

import (
	"math"
	"slices"
	"strconv"
	"strings"
	"testing"

	"kiln/api"
)

// desk is a program that is written node by node.
type desk struct{ l []api.Term }

func (d *desk) put(t api.Term) int {
	d.l = append(d.l, t)
	return len(d.l) - 1
}

func (d *desk) v(n int) int     { return d.put(api.Term{Kind: api.LVar, N: n}) }
func (d *desk) i(n int64) int   { return d.put(api.Term{Kind: api.LInt, Int: n}) }
func (d *desk) s(s string) int  { return d.put(api.Term{Kind: api.LStr, Text: s}) }
func (d *desk) r(x float64) int { return d.put(api.Term{Kind: api.LReal, Bits: math.Float64bits(x)}) }
func (d *desk) tuple(args ...int) int {
	return d.put(api.Term{Kind: api.LTuple, Args: args})
}
func (d *desk) field(n, a int) int { return d.put(api.Term{Kind: api.LField, N: n, Args: []int{a}}) }
func (d *desk) con(tag, a int) int { return d.put(api.Term{Kind: api.LCon, N: tag, Args: []int{a}}) }
func (d *desk) fn(v, body int) int { return d.put(api.Term{Kind: api.LFn, N: v, Args: []int{body}}) }
func (d *desk) app(f, a int) int   { return d.put(api.Term{Kind: api.LApp, Args: []int{f, a}}) }
func (d *desk) let(v, a, body int) int {
	return d.put(api.Term{Kind: api.LLet, N: v, Args: []int{a, body}})
}

// fix is functions for variables; the last of args is the body.
func (d *desk) fix(vars []int, args ...int) int {
	return d.put(api.Term{Kind: api.LFix, Vars: vars, Args: args})
}

// choose is a case of args[0]; behind it stand the branches.
func (d *desk) choose(keys []api.Key, args ...int) int {
	return d.put(api.Term{Kind: api.LCase, Keys: keys, Args: args})
}
func (d *desk) raise(a int) int { return d.put(api.Term{Kind: api.LRaise, Args: []int{a}}) }
func (d *desk) handle(a, v, b int) int {
	return d.put(api.Term{Kind: api.LHandle, N: v, Args: []int{a, b}})
}

// prim is a primitive by its name; of an overloaded one of ints, if its name does not say another type: "< string".
func (d *desk) prim(name string, args ...int) int {
	return d.put(api.Term{Kind: api.LPrim, N: placeOf(name), Args: args})
}

// print prints a string; say an int.
func (d *desk) print(s string) int { return d.prim("print", d.s(s)) }
func (d *desk) say(a int) int      { return d.prim("print", d.prim("intText", a)) }

// seq is some nodes one behind the other, the value of the last one; it binds 99.
func (d *desk) seq(l ...int) int {
	last := l[len(l)-1]
	for _, a := range slices.Backward(l[:len(l)-1]) {
		last = d.let(99, a, last)
	}
	return last
}

// program is the nodes with a root.
func (d *desk) program(root int) api.Lambda { return api.Lambda{Nodes: d.l, Root: root} }

// whole is a program with the names of the exceptions 1 to 8 around a node: 24 steps more.
func (d *desk) whole(root int) api.Lambda {
	for i, name := range exnNames() {
		root = d.let(i+1, d.prim("exn", d.s(name)), root)
	}
	return d.program(root)
}

func exnNames() []string {
	return []string{"Bind", "Chr", "Div", "Domain", "Match", "Overflow", "Size", "Subscript"}
}

// aroundNames is how many steps the names of the exceptions take.
const aroundNames = 24

func placeOf(name string) int {
	name, t, _ := strings.Cut(name, " ")
	con, ok := map[string]int{"int": api.ConInt, "real": api.ConReal, "char": api.ConChar, "string": api.ConString}[t]
	for i, p := range api.Prims() {
		if p.Name == name && (ok && p.Con == con || !ok && (p.Con == -1 || p.Con == api.ConInt)) {
			return i
		}
	}
	panic("no primitive " + name)
}

// Keys, written short.

func kInt(n int64) api.Key  { return api.Key{Kind: api.KeyInt, Int: n} }
func kCon(n int64) api.Key  { return api.Key{Kind: api.KeyCon, Int: n} }
func kStr(s string) api.Key { return api.Key{Kind: api.KeyStr, Text: s} }

// showOutcome is an outcome as a text.
func showOutcome(o api.Outcome) string {
	s := map[api.Status]string{api.Done: "done", api.Uncaught: "uncaught", api.OutOfFuel: "out of fuel", api.Stuck: "stuck"}[o.Status]
	var out []string
	for _, x := range o.Out {
		if len(x) > 50 {
			x = x[:50] + ".. " + strconv.Itoa(len(x))
		}
		out = append(out, strconv.Quote(x))
	}
	if o.Exn != "" || o.Status == api.Uncaught {
		s += " " + o.Exn
	}
	return strings.TrimSpace(strings.Join(out, " ") + " " + s)
}

// does fails the test, if a program does something else: what it must do is as showOutcome tells it.
func does(t *testing.T, name string, p api.Lambda, want string, input ...string) api.Outcome {
	t.Helper()
	o, e := Run(p, input, 100000)
	if got := showOutcome(o); e != api.OK || got != want {
		t.Errorf("%s: %s, %d; want %s", name, got, e, want)
	}
	return o
}

// takes fails the test, if a program does something else, or in another number of steps, or with another fuel otherwise than it must.
func takes(t *testing.T, name string, p api.Lambda, want string, steps int, input ...string) {
	t.Helper()
	o := does(t, name, p, want, input...)
	if o.Steps != steps {
		t.Errorf("%s: %d steps; want %d", name, o.Steps, steps)
	}
	for fuel := range steps + 3 {
		got, e := Run(p, input, fuel)
		ends := got.Status == o.Status && got.Exn == o.Exn && slices.Equal(got.Out, o.Out) && got.Steps == steps
		out := got.Status == api.OutOfFuel && got.Exn == "" && got.Steps == fuel && len(got.Out) <= len(o.Out) && slices.Equal(got.Out, o.Out[:len(got.Out)])
		if e != api.OK || fuel >= steps && !ends || fuel < steps && !out {
			t.Errorf("%s with %d: %s, %d steps, %d", name, fuel, showOutcome(got), got.Steps, e)
		}
	}
}
