package elab

import (
	"reflect"
	"strings"
	"testing"

	"kiln/api"
)

// rows is all that the environment says, with the types as they are now.
func (d *desk) rows() []string {
	d.t.Helper()
	v := d.e.Env()
	l := d.envRows(v)
	for _, s := range v.Strs {
		l = append(l, d.envRows(s.Env)...)
		for _, inner := range s.Env.Strs {
			l = append(l, d.envRows(inner.Env)...)
		}
	}
	return l
}

// weak is a desk with names whose types are not general, and not known, either.
func weak(t *testing.T) *desk {
	d := &desk{t: t, e: newPair(t).e}
	d.run("val r = ref nil val s = ref nil val f = (fn x => x) (fn x => x) val q = (fn x => x) (fn (x, y) => (x = y, r))")
	d.is("r", "'a list ref")
	d.is("q", "''a * ''a -> bool * 'b list ref")
	return d
}

// P8.2, P8.7: a refused declaration leaves the types of what is there, too, though some of them are not known yet.
func TestRefusedTypes(t *testing.T) {
	for _, text := range []string{
		"val x = (r := [1], nobody)",
		"val x = (f 1, nobody)",
		"val x = (fn _ => nobody) (r := !s)",
		"val x = (q (1, 2), nobody)",
		"val x = (M.K.w := [1], nobody)",
		"local open M.K in val x = (w := [1], nobody) end",
		"local open M in val x = (K.w := [1], nobody) end",
		"local val y = r := [1] val z = f true in val x = nobody end",
		"local val y = r in val x = (y := [1], nobody) end",
		"val x = fn y => (r := [y], #a y, nobody)",
		"val x = (r = s, nobody)",
		"val x = fn y => (r := [y + 1.0], {a = nobody})",
		"val x = (r := [1], r := [true])",
		"val x = let datatype d = D in (r := [D]; 1) end",
		"val x = let datatype d = D in (M.K.w := [D]; 1) end",
		"val x = (r := [1], fn {a, ...} => a)",
		"val (x : 'a) = (r := [1]; 2)",
	} {
		d := weak(t)
		env, rows := d.e.Env(), d.rows()
		if _, e := d.play(text); e == api.OK {
			t.Errorf("%q: not refused", text)
		}
		if !reflect.DeepEqual(d.e.Env(), env) {
			t.Errorf("%q: another environment", text)
		}
		d.askRows(d.rows(), rows)
		d.run("val a = r := [\"a\"] val b = M.K.w := [\"b\"] val c = f \"c\" val e = q (\"d\", \"e\") val g = s := [#\"a\"]")
		d.is("r", "string list ref")
		d.is("M.K.w", "string list ref")
		d.is("f", "string -> string")
		d.is("q", "string * string -> bool * string list ref")
		d.is("s", "char list ref")
	}
}

// P8.2: what a declaration that is taken says of types that were not known holds from there on, for all names that have them.
func TestTakenTypes(t *testing.T) {
	d := weak(t)
	d.run("val x = (r := [1], r, q)")
	d.is("r", "int list ref")
	d.is("q", "''a * ''a -> bool * int list ref")
	d.is("x", "unit * int list ref * (''a * ''a -> bool * int list ref)")
	d.run("val y = (s, f, M.K.w)")
	d.is("y", "'a list ref * ('b -> 'b) * 'c list ref")
	d.run("val z = (s := M.K.w :: nil, f s)")
	d.is("y", "'a list ref list ref * ('a list ref list ref -> 'a list ref list ref) * 'a list ref")
	d.run("local open M.K in val u = w := [true] end")
	d.is("y", "bool list ref list ref * (bool list ref list ref -> bool list ref list ref) * bool list ref")
	d.is("M.K.w", "bool list ref")
	if _, e := d.play("val v = M.K.w := [1]"); e != api.ErrUnify {
		t.Errorf("M.K.w is known: %v", e)
	}
	d = weak(t)
	d.run("open M val v = K.w val u = v := [1]")
	d.is("M.K.w", "int list ref")
	d.is("K.w", "int list ref")
}

// P8.2: within a declaration what is not general is not, wherever it stands.
func TestWithinTypes(t *testing.T) {
	for _, f := range []faults{
		{"val x = (r := [1], r §:= [true])", api.EApp, api.ErrUnify},
		{"val x = let val y = r in (y := [1], r §:= [true]) end", api.EApp, api.ErrUnify},
		{"val x = let val y = r val z = fn () => y in (z () := [1], z () §:= [true]) end", api.EApp, api.ErrUnify},
		{"val x = (#2 (q (1, 1)) := [1], r §:= [true])", api.EApp, api.ErrUnify},
		{"local open M.K in val x = (w := [1], M.K.w §:= [true]) end", api.EApp, api.ErrUnify},
		{"val x = fn (y : 'a) => r §:= [y]", api.EApp, api.ErrRigid},
		{"val x = §q (fn x => x, fn x => x)", api.EApp, api.ErrEquality},
		{"val x = §f f", api.EApp, api.ErrOccurs},
	} {
		askFault(t, weak(t), f)
	}
}

// P8.2: variables of all kinds in an environment that was set: with a class, for records, rigid ones, in constructors.
func TestStrangeVariables(t *testing.T) {
	build := func() *desk {
		d := newDesk(t)
		b := d.e.Book()
		num, _ := b.Var(0, false, api.Num)
		field, _ := b.Var(0, false, api.Any)
		open, _ := b.Open(0, []string{"a", "b"}, field, num)
		equal, _ := b.Var(0, true, api.Any)
		same, _ := b.Open(0, []string{"c"}, equal)
		if e := b.Unify(same, equal); e != api.ErrOccurs {
			t.Fatal(e)
		}
		alike, _ := b.Var(0, true, api.Any)
		if e := b.Unify(alike, same); e != api.OK {
			t.Fatal(e)
		}
		rigid, _ := b.Rigid(0, "'r")
		take, _ := b.Arrow(field, rigid)
		v := d.e.Env()
		for name, t := range map[string]int{"n": num, "fld": field, "rcd": open, "eq": equal, "sam": same, "rig": rigid} {
			v.Vals = append(v.Vals, api.Entry{Name: name, Is: api.SVar, Scheme: api.Scheme{Type: t}})
		}
		v.Vals = append(v.Vals, api.Entry{Name: "C", Is: api.SCon, Con: 9, Count: 1, Scheme: api.Scheme{Type: take}, Arg: true}, api.Entry{Name: "p", Is: api.SPrim, Scheme: api.Scheme{Type: take}})
		v.Types = append(v.Types, api.Typ{Name: "typ", Scheme: api.Scheme{Type: field}, Cons: []api.Entry{{Name: "Q", Is: api.SCon, Con: 9, Count: 1, Scheme: api.Scheme{Type: take}, Arg: true}}})
		d.e.Set(v)
		return d
	}
	want := map[string]string{"n": "'a#", "fld": "'a", "rcd": "{a : 'b, b : 'c#, .. 'a}", "eq": "''a", "sam": "{c : ''b, .. ''a}", "rig": "'r", "C": "'a -> 'r", "p": "'a -> 'r"}
	d := build()
	for name, s := range want {
		d.is(name, s)
	}
	for _, text := range []string{
		"val x = (n + 1.0, nobody)", "val x = (fld 1, nobody)", "val x = (#a rcd + 1, nobody)", "val x = (rcd : {a : int, b : int, c : int}, nobody)",
		"val x = (eq = 1, nobody)", "val x = (sam : {c : int, d : int}, nobody)", "val x = (C 1, nobody)", "val x = (p 1, nobody)", "val x = fn C 1 => nobody",
		"local datatype c = datatype typ in val x = (Q 1, nobody) end", "local datatype c = datatype typ in val x = fn Q 1 => nobody end", "local datatype c = datatype typ in val x = (1 : c, nobody) end", "val x = (1 : typ, nobody)",
		"val x = (rcd : {a : int, b : char})", "val x = (sam : {c : int -> int})", "val x = (n : char)", "val x = (rig : int)",
	} {
		if _, e := d.play(text); e == api.OK {
			t.Errorf("%q: not refused", text)
		}
		for name, s := range want {
			d.is(name, s)
		}
	}
	for _, f := range []faults{
		{"val x = §rcd : {a : int, b : char}", api.ETyped, api.ErrClass},
		{"val x = §rcd : {b : int}", api.ETyped, api.ErrFields},
		{"val x = §sam : {c : int, d : int -> int}", api.ETyped, api.ErrEquality},
		{"val x = §n : char", api.ETyped, api.ErrClass},
		{"val x = §rig : int", api.ETyped, api.ErrRigid},
	} {
		askFault(t, d, f)
	}
	if d.run("local datatype c = datatype typ in val x = (1 : c) end"); d.text(d.typ("typ").Scheme.Type) != "int" {
		t.Error("typ is no int")
	}
	d.is("fld", "int")
	d = build()
	d.run("datatype c = datatype typ val y = Q 1")
	d.is("Q", "int -> 'r")
	d.is("fld", "int")
	d = build()
	d.run("val x = ((rcd : {a : int, b : real, c : int}), fn C y => y + 1)")
	d.is("n", "real")
	d.is("fld", "int")
	d.is("C", "int -> 'r")
	d.is("rcd", "{a : int, b : real, c : int}")
}

// P8.2: a use of a name costs as many types as its own has, not more.
func TestManyUses(t *testing.T) {
	d := weak(t)
	text := "val x = ("
	for range 2000 {
		text += "r := nil; "
	}
	d.run(text + "1)")
	for range 300 {
		d.run("val y = r")
	}
	d.is("y", "'a list ref")
	last, _ := d.e.Book().Var(0, false, api.Any)
	if last > 60000 {
		t.Errorf("%d types", last)
	}
}

// P8.2: a declaration that makes a type that was there too large is taken, too; then nobody can use what has it.
func TestGrownTypes(t *testing.T) {
	tuple := func(n int, s string) string { return "(" + strings.Repeat(s+", ", n-1) + s + ")" }
	d := weak(t)
	text := "val x = fn y => ((r := [" + tuple(200, "y") + "]; 1), y = " + tuple(20, "1") + ", M.K.w := [1], fn {a, ...} : {a : int} => a)"
	if at, e := d.play(text); e != api.OK {
		t.Fatalf("%v at %v", e, d.l[at])
	}
	if got := d.val("x").At.Id; got != d.val("q").At.Id+3 { // behind what is bound in x's function
		t.Errorf("x is at %d; q is at %d", got, d.val("q").At.Id)
	}
	d.is("M.K.w", "int list ref")
	askFault(t, d, faults{"val y = §r", api.EName, api.ErrLong})
	askFault(t, d, faults{"val y = §q", api.EName, api.ErrLong})
	if _, e := d.play("val x = fn y => ((s := [" + tuple(200, "y") + "]; 1), y = " + tuple(20, "1") + ", nobody)"); e != api.ErrUnbound {
		t.Fatal(e)
	}
	d.is("s", "'a list ref")
}

// P8.1: a scheme's variables are what they are now: two that were made one are one.
func TestSchemesOfJoined(t *testing.T) {
	d := newDesk(t)
	b := d.e.Book()
	one, _ := b.Var(1, false, api.Any)
	other, _ := b.Var(1, false, api.Any)
	loose, _ := b.Var(0, false, api.Any)
	if e := b.Unify(one, other); e != api.OK {
		t.Fatal(e)
	}
	left, right := one, other
	if b.Free(one)[0] == one {
		left, right = other, one
	}
	f, _ := b.Record([]string{"1", "2"}, right, loose)
	v := d.e.Env()
	v.Vals = append(v.Vals, api.Entry{Name: "g", Is: api.SVar, Scheme: api.Scheme{Vars: []int{left}, Type: f}})
	d.e.Set(v)
	d.run("val x = (#1 g + 1, #1 g = \"a\", #2 g + 2)")
	d.is("x", "int * bool * int")
	d.is("g", "!'a * int")
}
