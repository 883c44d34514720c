package values

import (
	"math"
	"reflect"
	"strings"
	"testing"

	"kiln/api"
)

// The table has the primitives of api.Prims, in that order.
func TestTable(t *testing.T) {
	l, all := primitives(), api.Prims()
	if len(l) != len(all) {
		t.Fatalf("%d primitives; want %d", len(l), len(all))
	}
	for i, p := range all {
		if l[i].name != p.Name || l[i].con != p.Con {
			t.Errorf("at %d: %s of %d; want %s of %d", i, l[i].name, l[i].con, p.Name, p.Con)
		}
	}
}

// place is where a primitive stands in api.Prims.
func place(t *testing.T, name string, con int) int {
	t.Helper()
	for i, p := range api.Prims() {
		if p.Name == name && p.Con == con {
			return i
		}
	}
	t.Fatalf("no primitive %s of %d", name, con)
	return -1
}

func is(v Value) Answer       { return Answer{Val: v} }
func code(c int) Answer       { return Answer{Code: c} }
func end(s api.Status) Answer { return Answer{End: s} }
func row(l ...Value) []Value  { return l }

// cellOf is a cell of some values.
func cellOf(l ...Value) *Cell {
	if len(l) == 0 {
		return newCell(0, nil)
	}
	c := newCell(len(l), l[0])
	for i, v := range l[1:] {
		c.set(i+1, v)
	}
	return c
}

// sameAnswer tells whether two answers are: all NaNs are one.
func sameAnswer(a, b Answer) bool {
	x, ok := a.Val.(Real)
	y, also := b.Val.(Real)
	if ok && also && x != x && y != y {
		return a.Code == b.Code && a.End == b.End
	}
	if ok && also && math.Signbit(float64(x)) != math.Signbit(float64(y)) {
		return false
	}
	return reflect.DeepEqual(a, b)
}

// primCase is what a primitive must do with some values.
type primCase struct {
	name string
	con  int
	args []Value
	want Answer
}

func (c primCase) hold(t *testing.T) {
	t.Helper()
	if got := NewState(nil, 100).Do(place(t, c.name, c.con), c.args); !sameAnswer(got, c.want) {
		t.Errorf("%s of %d, of %v: %v; want %v", c.name, c.con, c.args, got, c.want)
	}
}

const (
	most  = Int(api.MaxFix)
	least = Int(api.MinFix)
	yes   = Int(1)
	no    = Int(0)
)

// P11.3: ints, by layer 1.
func TestInts(t *testing.T) {
	over, byZero := code(api.XOverflow), code(api.XDiv)
	for _, c := range []primCase{
		{"+", api.ConInt, row(Int(2), Int(3)), is(Int(5))}, {"+", api.ConInt, row(most, Int(1)), over}, {"+", api.ConInt, row(least, Int(-1)), over}, {"+", api.ConInt, row(most, Int(0)), is(most)},
		{"-", api.ConInt, row(Int(2), Int(3)), is(Int(-1))}, {"-", api.ConInt, row(least, Int(1)), over}, {"-", api.ConInt, row(Int(-1), most), is(least)},
		{"*", api.ConInt, row(Int(-2), Int(3)), is(Int(-6))}, {"*", api.ConInt, row(Int(1<<31), Int(1<<31)), over}, {"*", api.ConInt, row(Int(-1<<31), Int(1<<31)), is(least)},
		{"~", api.ConInt, row(Int(5)), is(Int(-5))}, {"~", api.ConInt, row(least), over}, {"~", api.ConInt, row(most), is(-most)},
		{"abs", api.ConInt, row(Int(-5)), is(Int(5))}, {"abs", api.ConInt, row(Int(5)), is(Int(5))}, {"abs", api.ConInt, row(least), over},
		{"div", -1, row(Int(-7), Int(2)), is(Int(-4))}, {"div", -1, row(Int(1), Int(0)), byZero}, {"div", -1, row(least, Int(-1)), over},
		{"mod", -1, row(Int(-7), Int(2)), is(Int(1))}, {"mod", -1, row(Int(1), Int(0)), byZero}, {"mod", -1, row(least, Int(-1)), is(Int(0))},
		{"quot", -1, row(Int(-7), Int(2)), is(Int(-3))}, {"quot", -1, row(Int(0), Int(0)), byZero}, {"quot", -1, row(least, Int(-1)), over},
		{"rem", -1, row(Int(-7), Int(2)), is(Int(-1))}, {"rem", -1, row(Int(0), Int(0)), byZero}, {"rem", -1, row(least, Int(-1)), is(Int(0))},
		{"real", -1, row(Int(-3)), is(Real(-3))}, {"real", -1, row(most), is(Real(1 << 62))},
		{"intText", -1, row(Int(-5)), is(Text("~5"))}, {"intText", -1, row(least), is(Text("~4611686018427387904"))},
		{"ord", -1, row(Int(0)), is(Int(0))}, {"ord", -1, row(Int(255)), is(Int(255))}, {"ord", -1, row(Int(256)), end(api.Stuck)}, {"ord", -1, row(Int(-1)), end(api.Stuck)},
		{"chr", -1, row(Int(0)), is(Int(0))}, {"chr", -1, row(Int(255)), is(Int(255))}, {"chr", -1, row(Int(256)), code(api.XChr)}, {"chr", -1, row(Int(-1)), code(api.XChr)},
		{"str", -1, row(Int(0)), is(Text("\x00"))}, {"str", -1, row(Int(255)), is(Text("\xff"))}, {"str", -1, row(Int(256)), end(api.Stuck)}, {"str", -1, row(Int(-1)), end(api.Stuck)},
	} {
		c.hold(t)
	}
}

// P11.3: reals, by layer 2.
func TestReals(t *testing.T) {
	nan, inf, zero := Real(math.NaN()), Real(math.Inf(1)), Real(math.Copysign(0, -1))
	over, domain := code(api.XOverflow), code(api.XDomain)
	for _, c := range []primCase{
		{"+", api.ConReal, row(Real(0.1), Real(0.2)), is(Real(0.30000000000000004))}, {"+", api.ConReal, row(inf, -inf), is(nan)}, {"+", api.ConReal, row(zero, zero), is(zero)},
		{"-", api.ConReal, row(Real(1), Real(0.5)), is(Real(0.5))}, {"-", api.ConReal, row(zero, Real(0)), is(zero)},
		{"*", api.ConReal, row(Real(3), Real(-0.5)), is(Real(-1.5))}, {"*", api.ConReal, row(Real(1e300), Real(1e300)), is(inf)},
		{"/", -1, row(Real(1), Real(-4)), is(Real(-0.25))}, {"/", -1, row(Real(1), zero), is(-inf)}, {"/", -1, row(Real(0), Real(0)), is(nan)},
		{"~", api.ConReal, row(Real(1.5)), is(Real(-1.5))}, {"~", api.ConReal, row(Real(0)), is(zero)}, {"~", api.ConReal, row(nan), is(nan)},
		{"abs", api.ConReal, row(Real(-1.5)), is(Real(1.5))}, {"abs", api.ConReal, row(zero), is(Real(0))}, {"abs", api.ConReal, row(-inf), is(inf)},
		{"same", -1, row(zero, Real(0)), is(yes)}, {"same", -1, row(nan, nan), is(no)}, {"same", -1, row(Real(1), Real(2)), is(no)}, {"same", -1, row(Real(2), Real(1)), is(no)},
		{"isNan", -1, row(nan), is(yes)}, {"isNan", -1, row(inf), is(no)}, {"isNan", -1, row(Real(0)), is(no)}, {"isNan", -1, row(Real(5e-324)), is(no)}, {"isNan", -1, row(Real(1)), is(no)},
		{"floor", -1, row(Real(-0.5)), is(Int(-1))}, {"floor", -1, row(nan), domain}, {"floor", -1, row(inf), over}, {"floor", -1, row(Real(1 << 62)), over}, {"floor", -1, row(Real(-1 << 62)), is(least)},
		{"ceil", -1, row(Real(0.5)), is(Int(1))}, {"ceil", -1, row(nan), domain}, {"ceil", -1, row(-inf), over},
		{"trunc", -1, row(Real(-1.5)), is(Int(-1))}, {"trunc", -1, row(nan), domain}, {"trunc", -1, row(Real(-1e300)), over},
		{"round", -1, row(Real(2.5)), is(Int(2))}, {"round", -1, row(Real(3.5)), is(Int(4))}, {"round", -1, row(Real(-2.5)), is(Int(-2))}, {"round", -1, row(nan), domain}, {"round", -1, row(inf), over},
		{"realText", -1, row(Real(-1.5e300)), is(Text("~1.5E300"))}, {"realText", -1, row(nan), is(Text("nan"))}, {"realText", -1, row(zero), is(Text("~0.0"))},
	} {
		c.hold(t)
	}
}

// P11.3: each order of ints, of reals, of characters and of strings: which of two is below, the same, above; a NaN is none of these.
func TestOrders(t *testing.T) {
	nan := Real(math.NaN())
	for name, want := range map[string][3]Value{"<": {yes, no, no}, "<=": {yes, yes, no}, ">": {no, no, yes}, ">=": {no, yes, yes}} {
		for _, c := range []struct {
			con  int
			a, b Value
		}{
			{api.ConInt, Int(-3), Int(2)}, {api.ConInt, least, most}, {api.ConReal, Real(-0.5), Real(0.25)}, {api.ConReal, Real(math.Inf(-1)), Real(math.Inf(1))},
			{api.ConChar, Int(65), Int(200)}, {api.ConString, Text(""), Text("a")}, {api.ConString, Text("a"), Text("ab")}, {api.ConString, Text("ab"), Text("b")}, {api.ConString, Text("z"), Text("\xff")},
		} {
			primCase{name, c.con, row(c.a, c.b), is(want[0])}.hold(t)
			primCase{name, c.con, row(c.a, c.a), is(want[1])}.hold(t)
			primCase{name, c.con, row(c.b, c.b), is(want[1])}.hold(t)
			primCase{name, c.con, row(c.b, c.a), is(want[2])}.hold(t)
		}
		primCase{name, api.ConReal, row(Real(0), Real(math.Copysign(0, -1))), is(want[1])}.hold(t)
		for _, x := range []Real{nan, 1, Real(math.Inf(1)), Real(math.Inf(-1))} {
			primCase{name, api.ConReal, row(x, nan), is(no)}.hold(t)
			primCase{name, api.ConReal, row(nan, x), is(no)}.hold(t)
		}
	}
}

// P11.3: strings, by layer 3.
func TestTexts(t *testing.T) {
	longest := strings.Repeat("a", api.MaxString)
	off := code(api.XSubscript)
	for _, c := range []primCase{
		{"^", -1, row(Text("ab"), Text("c")), is(Text("abc"))}, {"^", -1, row(Text(""), Text("")), is(Text(""))},
		{"^", -1, row(Text(longest), Text("")), is(Text(longest))}, {"^", -1, row(Text(longest), Text("b")), code(api.XSize)}, {"^", -1, row(Text("b"), Text(longest)), code(api.XSize)}, {"^", -1, row(Text("b"), Text(longest[1:])), is(Text("b" + longest[1:]))},
		{"size", -1, row(Text("")), is(Int(0))}, {"size", -1, row(Text(longest)), is(Int(api.MaxString))},
		{"sub", -1, row(Text("abc"), Int(1)), is(Int(98))}, {"sub", -1, row(Text("abc"), Int(3)), off}, {"sub", -1, row(Text("abc"), Int(-1)), off}, {"sub", -1, row(Text("\xff"), Int(0)), is(Int(255))}, {"sub", -1, row(Text(""), Int(0)), off},
		{"substring", -1, row(Text("abc"), Int(1), Int(2)), is(Text("bc"))}, {"substring", -1, row(Text("abc"), Int(3), Int(0)), is(Text(""))}, {"substring", -1, row(Text("abc"), Int(2), Int(2)), off}, {"substring", -1, row(Text("abc"), Int(-1), Int(1)), off}, {"substring", -1, row(Text("abc"), Int(1), Int(-1)), off}, {"substring", -1, row(Text("abc"), most, most), off},
		{"intScan", -1, row(Text(" ~12ab")), is(Tuple{Int(-12), Int(4)})}, {"intScan", -1, row(Text("x")), is(Tuple{Int(0), Int(0)})}, {"intScan", -1, row(Text("")), is(Tuple{Int(0), Int(0)})}, {"intScan", -1, row(Text("0")), is(Tuple{Int(0), Int(1)})},
		{"intScan", -1, row(Text("99999999999999999999 ")), code(api.XOverflow)}, {"intScan", -1, row(Text("-4611686018427387904")), is(Tuple{least, Int(20)})},
		{"exn", -1, row(Text("E")), is(cellOf(Text("E")))},
	} {
		c.hold(t)
	}
}

// P11.3: cells.
func TestCells(t *testing.T) {
	one, some, none := cellOf(Text("a")), cellOf(Int(7), Real(1), Text("c")), cellOf()
	for _, c := range []primCase{
		{"ref", -1, row(Text("a")), is(one)}, {"ref", -1, row(one), is(cellOf(one))}, {"ref", -1, row(Tuple{Int(1)}), is(cellOf(Tuple{Int(1)}))},
		{"array", -1, row(Int(3), Int(5)), is(newCell(3, Int(5)))}, {"array", -1, row(Int(0), Int(5)), is(newCell(0, Int(5)))}, {"array", -1, row(Int(-1), Int(5)), code(api.XSize)}, {"array", -1, row(Int(api.MaxCells), one), is(newCell(api.MaxCells, one))}, {"array", -1, row(Int(api.MaxCells+1), one), code(api.XSize)}, {"array", -1, row(most, one), code(api.XSize)}, {"array", -1, row(least, one), code(api.XSize)},
		{"!", -1, row(one), is(Text("a"))}, {"!", -1, row(some), is(Int(7))}, {"!", -1, row(none), end(api.Stuck)},
		{"length", -1, row(one), is(Int(1))}, {"length", -1, row(some), is(Int(3))}, {"length", -1, row(none), is(Int(0))},
		{"get", -1, row(some, Int(0)), is(Int(7))}, {"get", -1, row(some, Int(2)), is(Text("c"))}, {"get", -1, row(some, Int(3)), code(api.XSubscript)}, {"get", -1, row(some, Int(-1)), code(api.XSubscript)}, {"get", -1, row(none, Int(0)), code(api.XSubscript)}, {"get", -1, row(some, most), code(api.XSubscript)}, {"get", -1, row(some, least), code(api.XSubscript)},
		{":=", -1, row(none, Int(0)), end(api.Stuck)},
		{"set", -1, row(none, Int(0), Int(0)), code(api.XSubscript)}, {"set", -1, row(one, Int(1), Int(0)), code(api.XSubscript)}, {"set", -1, row(one, Int(-1), Int(0)), code(api.XSubscript)}, {"set", -1, row(one, most, Int(0)), code(api.XSubscript)},
	} {
		c.hold(t)
	}
	if !reflect.DeepEqual([]*Cell{one, some, none}, []*Cell{cellOf(Text("a")), cellOf(Int(7), Real(1), Text("c")), cellOf()}) {
		t.Error("a cell was changed")
	}
	s := NewState(nil, 0)
	for _, c := range []primCase{{":=", -1, row(some, Text("x")), is(Int(0))}, {"set", -1, row(some, Int(2), one), is(Int(0))}, {":=", -1, row(one, some), is(Int(0))}, {"set", -1, row(some, Int(0), none), is(Int(0))}} {
		if got := s.Do(place(t, c.name, c.con), c.args); !reflect.DeepEqual(got, c.want) {
			t.Errorf("%s: %v", c.name, got)
		}
	}
	first, _ := some.get(0)
	last, _ := some.get(2)
	in, _ := one.get(0)
	if first != Value(none) || last != Value(one) || in != Value(some) {
		t.Errorf("%v, %v, %v", first, last, in)
	}
}

// kinds are values of each kind; a function is of a type of which this package knows nothing.
func kinds() map[string]Value {
	return map[string]Value{"int": Int(1), "real": Real(1), "string": Text("a"), "tuple": Tuple{Int(1)}, "con": &Con{Tag: 1, Of: Int(1)}, "cell": newCell(1, Int(1)), "function": &struct{ at int }{1}}
}

// kindOf is which kind a primitive takes, by the type of its argument; "" is any.
func kindOf(t string) string {
	switch t {
	case "int", "char", "bool", "unit":
		return "int"
	case "real", "string":
		return t
	case "'a ref", "'a array":
		return "cell"
	}
	return ""
}

// P11.3: a value of another kind than a primitive takes, at each place: Stuck.
func TestOtherKinds(t *testing.T) {
	for i, p := range api.Prims() {
		from, _, _ := strings.Cut(p.Type, " -> ")
		types := strings.Split(from, " * ")
		if len(types) != p.Args {
			t.Fatalf("%s: %d arguments; want %d", p.Type, len(types), p.Args)
		}
		for at := range types {
			want := kindOf(types[at])
			for kind, v := range kinds() {
				if want == "" || kind == want {
					continue
				}
				var l []Value
				for _, x := range types {
					right := kinds()["int"]
					if k := kindOf(x); k != "" {
						right = kinds()[k]
					}
					l = append(l, right)
				}
				l[at] = v
				s := NewState([]string{"line"}, 100)
				if got := s.Do(i, l); got != stuck() {
					t.Errorf("%s of %s at %d: %v; want Stuck", p.Name, kind, at, got)
				}
				if o := s.Outcome(api.Stuck); len(o.Out) != 0 || o.Steps != 0 || len(s.input) != 1 {
					t.Errorf("%s of %s at %d: something was done", p.Name, kind, at)
				}
			}
		}
	}
}
