package cps

import (
	"math"
	"slices"
	"strconv"
	"strings"
	"testing"

	"kiln/api"
)

// desk is a program that is written node by node.
type desk struct{ l []api.Flow }

func (d *desk) put(f api.Flow) int {
	d.l = append(d.l, f)
	return len(d.l) - 1
}

func (d *desk) v(n int) int     { return d.put(api.Flow{Kind: api.JVar, N: n}) }
func (d *desk) i(n int64) int   { return d.put(api.Flow{Kind: api.JInt, Int: n}) }
func (d *desk) s(s string) int  { return d.put(api.Flow{Kind: api.JStr, Text: s}) }
func (d *desk) r(x float64) int { return d.put(api.Flow{Kind: api.JReal, Bits: math.Float64bits(x)}) }

// tuple binds n to a tuple; the last of args is what comes then.
func (d *desk) tuple(n int, args ...int) int {
	return d.put(api.Flow{Kind: api.JTuple, N: n, Args: args})
}
func (d *desk) con(n, tag, a, rest int) int {
	return d.put(api.Flow{Kind: api.JCon, N: n, M: tag, Args: []int{a, rest}})
}
func (d *desk) field(n, field, a, rest int) int {
	return d.put(api.Flow{Kind: api.JField, N: n, M: field, Args: []int{a, rest}})
}

// prim binds n to what a primitive answers, which is named as "<", or "< string" if not of ints; behind the atoms of args stands what comes then, and what comes when it raises.
func (d *desk) prim(n int, name string, args ...int) int {
	return d.put(api.Flow{Kind: api.JPrim, N: n, M: placeOf(name), Args: args})
}
func (d *desk) fn(params []int, body int) int {
	return d.put(api.Flow{Kind: api.JFn, Vars: params, Args: []int{body}})
}

// fix is functions for variables; the last of args is what comes then.
func (d *desk) fix(vars []int, args ...int) int {
	return d.put(api.Flow{Kind: api.JFix, Vars: vars, Args: args})
}
func (d *desk) call(args ...int) int { return d.put(api.Flow{Kind: api.JCall, Args: args}) }

// choose is a case of args[0]; behind it stand the branches.
func (d *desk) choose(keys []api.Key, args ...int) int {
	return d.put(api.Flow{Kind: api.JCase, Keys: keys, Args: args})
}
func (d *desk) halt(a int) int { return d.put(api.Flow{Kind: api.JHalt, Args: []int{a}}) }
func (d *desk) fail(a int) int { return d.put(api.Flow{Kind: api.JFail, Args: []int{a}}) }

// print prints a string, and say an int, ahead of what comes then; they bind 98 and 99.
func (d *desk) print(s string, rest int) int { return d.prim(99, "print", d.s(s), rest) }
func (d *desk) say(a, rest int) int {
	return d.prim(98, "intText", a, d.prim(99, "print", d.v(98), rest))
}
func (d *desk) done() int { return d.halt(d.i(0)) }

// program is the nodes with a root.
func (d *desk) program(root int) api.Cps { return api.Cps{Nodes: d.l, Root: root} }

func placeOf(name string) int {
	name, t, _ := strings.Cut(name, " ")
	con, ok := map[string]int{"int": api.ConInt, "real": api.ConReal, "char": api.ConChar, "string": api.ConString}[t]
	for i, p := range api.Prims() {
		if p.Name == name && (ok && p.Con == con || !ok && (p.Con == -1 || p.Con == api.ConInt)) {
			return i
		}
	}
	panic("no primitive " + name)
}

// Keys, written short.

func kInt(n int64) api.Key  { return api.Key{Kind: api.KeyInt, Int: n} }
func kCon(n int64) api.Key  { return api.Key{Kind: api.KeyCon, Int: n} }
func kStr(s string) api.Key { return api.Key{Kind: api.KeyStr, Text: s} }

// showOutcome is an outcome as a text.
func showOutcome(o api.Outcome) string {
	s := map[api.Status]string{api.Done: "done", api.Uncaught: "uncaught", api.OutOfFuel: "out of fuel", api.Stuck: "stuck"}[o.Status]
	var out []string
	for _, x := range o.Out {
		if len(x) > 50 {
			x = x[:50] + ".. " + strconv.Itoa(len(x))
		}
		out = append(out, strconv.Quote(x))
	}
	if o.Exn != "" || o.Status == api.Uncaught {
		s += " " + o.Exn
	}
	return strings.TrimSpace(strings.Join(out, " ") + " " + s)
}

func sameOutcome(a, b api.Outcome) bool {
	return slices.Equal(a.Out, b.Out) && a.Status == b.Status && a.Exn == b.Exn && a.Steps == b.Steps
}

// begins tells whether what was printed is a beginning of something.
func begins(some, all []string) bool {
	return len(some) <= len(all) && slices.Equal(some, all[:len(some)])
}

// does fails the test, if a program does something else: what it must do is as showOutcome tells it.
func does(t *testing.T, name string, p api.Cps, want string, input ...string) api.Outcome {
	t.Helper()
	o, e := Run(p, input, 100000)
	if got := showOutcome(o); e != api.OK || got != want {
		t.Errorf("%s: %s, %d; want %s", name, got, e, want)
	}
	return o
}

// takes fails the test, if a program does something else, or in another number of steps, or with another fuel otherwise than it must.
func takes(t *testing.T, name string, p api.Cps, want string, steps int, input ...string) {
	t.Helper()
	o := does(t, name, p, want, input...)
	if o.Steps != steps {
		t.Errorf("%s: %d steps; want %d", name, o.Steps, steps)
	}
	for fuel := range steps + 3 {
		got, e := Run(p, input, fuel)
		ends := sameOutcome(got, o)
		out := got.Status == api.OutOfFuel && got.Exn == "" && got.Steps == fuel && begins(got.Out, o.Out)
		if e != api.OK || fuel >= steps && !ends || fuel < steps && !out {
			t.Errorf("%s with %d: %s, %d steps, %d", name, fuel, showOutcome(got), got.Steps, e)
		}
	}
}
