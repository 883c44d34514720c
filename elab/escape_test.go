package elab

import (
	"testing"

	"kiln/api"
)

// P8.2: ELet: a type that leaves its scope.
func TestEscape(t *testing.T) {
	askFaults(t, []faults{
		{"val r = §let datatype d = D in D end", api.ELet, api.ErrEscape},
		{"val r = §let datatype d = D in (1, [D]) end", api.ELet, api.ErrEscape},
		{"val r = §let datatype d = D in fn D => 1 end", api.ELet, api.ErrEscape},
		{"val r = §let datatype d = D of int -> int in D end", api.ELet, api.ErrEscape}, // one without equality
		{"val r = §let datatype 'a d = D in D : int d end", api.ELet, api.ErrEscape},
		{"val r = §let datatype d = D datatype e = E in E end", api.ELet, api.ErrEscape},
		{"val r = §let datatype d = D datatype e = E in D end", api.ELet, api.ErrEscape},
		{"val r = §let local datatype d = D in val x = D end in x end", api.ELet, api.ErrEscape},
		{"val r = let datatype d = D in §let datatype e = E in (D, E) end; 1 end", api.ELet, api.ErrEscape},
		{"val r = §let datatype d = D in let datatype e = E in D end end", api.ELet, api.ErrEscape},
		{"val r = §let val x = let datatype d = D in 1 end datatype e = E in E end", api.ELet, api.ErrEscape},
		{"val f = fn x => §let datatype d = D in (x = D; 1) end", api.ELet, api.ErrEscape},
		{"val f = fn x => fn y => §let datatype d = D in (x = [D]; y) end", api.ELet, api.ErrEscape},
		{"val f = fn x => §let datatype d = D of int val g = fn y => (x (D y); y) in 1 end", api.ELet, api.ErrEscape},
		{"val f = fn (x, y) => §let datatype d = D val g = (if true then x else D) in y end", api.ELet, api.ErrEscape},
		{"val f = fn {a, ...} => §let datatype d = D in (a = D; 1) end", api.ELet, api.ErrEscape},
		{"val f = fn x => let val y = [x] in §let datatype d = D in (y = [D]; 1) end end", api.ELet, api.ErrEscape},
		{"fun f x = §let datatype d = D in (f D; 1) end", api.ELet, api.ErrEscape},
		{"val x = ref nil val y = §let datatype d = D in (x := [D]; 1) end", api.ELet, api.ErrEscape},
		{"val f = fn x => (§let datatype d = D in D end, let datatype e = E in E end)", api.ELet, api.ErrEscape},
		{"val r = let datatype d = D in §let datatype d = D in D end end", api.ELet, api.ErrEscape},
		{"val f = fn x => let datatype d = D in §let datatype e = E in (x = E; 1) end end", api.ELet, api.ErrEscape},
		{"val x = let local in val r = ref nil end in §let datatype d = D in (r := [D]; 1) end end", api.ELet, api.ErrEscape},
		{"val x = let local val q = 1 in val r = ref nil val p = q end in §let datatype d = D in (r := [D]; 1) end end", api.ELet, api.ErrEscape},
		{"val x = let local val p = 1 val q = 2 in val z = let datatype d = D in 1 end val r = ref nil end in §let datatype d = D in (r := [D]; 1) end end", api.ELet, api.ErrEscape},
		{"val x = let local local in val r = ref nil end in val s = r end in §let datatype d = D in (s := [D]; 1) end end", api.ELet, api.ErrEscape},
	})
	askTypes(t, map[string]string{
		"val it = let datatype d = D in 1 end":                                                         "int",
		"val it = let datatype d = D of int in let val D x = D 1 in x end end":                         "int",
		"datatype d = D val it = let val x = D in x end":                                               "d",
		"val it = let datatype d = D in let datatype e = E of d in let val E y = E D in 1 end end end": "int",
		"val it = let datatype d = D val it = D in (fn D => 1) it end":                                 "int",
		"val f = fn x => let datatype d = D of int in (fn D y => y) (D x) end val it = f":              "int -> int",
		"datatype e = E val it = fn x => let datatype d = D in (x = E; x) end":                         "e -> e",
		"val it = let datatype d = D in raise Div end":                                                 "'a",
		"val x = ref nil val it = let datatype d = D in x := [1] end":                                  "unit",
		"val it = fn x => let datatype d = D val f = fn y => (y = D; x) in f D end":                    "!'a -> 'a",
		"val f = fn x => x val it = let datatype d = D in (f D; f 1) end":                              "int", // general ones are instances there
	})
}

// P8.2: ELet: values of structures that are left open, and what is no variable.
func TestEscapeStructures(t *testing.T) {
	build := func() (*desk, int, int) {
		d := newDesk(t)
		open, _ := d.e.Book().Var(0, false, api.Any)
		general, _ := d.e.Book().Var(1, false, api.Any)
		entry := func(name string, is api.Naming, s api.Scheme) api.Entry {
			return api.Entry{Name: name, Is: is, Scheme: s}
		}
		v := d.e.Env()
		v.Strs = append(v.Strs, api.Str{Name: "S", Env: api.Env{Strs: []api.Str{{Name: "T", Env: api.Env{Vals: []api.Entry{
			entry("general", api.SVar, api.Scheme{Vars: []int{general}, Type: general}),
			entry("wide", api.SVar, api.Scheme{Type: open}),
		}}}}}})
		d.e.Set(v)
		return d, open, general
	}
	d, _, _ := build()
	askFault(t, d, faults{"val x = §let datatype d = D in (S.T.wide = D; 1) end", api.ELet, api.ErrEscape})
	d, _, _ = build()
	d.run("val x = let datatype d = D in 1 end") // all is looked at once
	askFault(t, d, faults{"val x = §let datatype d = D in (S.T.wide = D; 1) end", api.ELet, api.ErrEscape})
	d, _, _ = build()
	d.run("val x = let datatype d = D in 1 end open S val y = let datatype d = D in 1 end")
	askFault(t, d, faults{"val x = §let datatype d = D in (T.wide = D; 1) end", api.ELet, api.ErrEscape})
	d, _, _ = build()
	d.run("val x = let datatype d = D in (S.T.general = D; 1) end val y = let datatype d = D in (S.T.wide = 1; D = D) end")
	d.is("y", "bool")
	d.run("val z = let datatype d = D in (S.T.wide = 2; D = D) end") // it is closed now
	d.is("S.T.wide", "int")

	d, open, _ := build()
	v := d.e.Env()
	v.Strs = v.Strs[:1]
	v.Vals = append(v.Vals, api.Entry{Name: "c", Is: api.SCon, Scheme: api.Scheme{Type: open}, Con: 7, Count: 1})
	d.e.Set(v)
	d.run("val x = let datatype d = D in (c = D; 1) end") // c is no variable
	d.is("x", "int")
}

// P8.2: ELet: what was left open stays so, though it was looked at once.
func TestEscapeTwice(t *testing.T) {
	for _, names := range [][]string{{"wide"}, {"general", "wide"}, {"wide", "general"}} {
		d := newDesk(t)
		v := d.e.Env()
		var inside api.Env
		for _, name := range names {
			x, _ := d.e.Book().Var(0, false, api.Any)
			e := api.Entry{Name: name, Is: api.SVar, Scheme: api.Scheme{Type: x}}
			if name == "general" {
				e.Scheme.Vars = []int{x}
			}
			inside.Vals = append(inside.Vals, e)
		}
		v.Strs = append(v.Strs, api.Str{Name: "S", Env: inside})
		d.e.Set(v)
		d.run("val x = let datatype d = D in 1 end")
		askFault(t, d, faults{"val x = §let datatype d = D in (S.wide = D; 1) end", api.ELet, api.ErrEscape})
	}
	d := played(t, "val x = ref nil val y = let datatype d = D in 1 end")
	askFault(t, d, faults{"val z = §let datatype d = D in (x := [D]; 1) end", api.ELet, api.ErrEscape})
	d = played(t, "val x = ref nil")
	askFault(t, d, faults{"val f = fn u => (let datatype d = D in 1 end, fn v => §let datatype d = D in (v = D, u) end)", api.ELet, api.ErrEscape})
	d = played(t, "val f = fn u => (let datatype d = D in 1 end, fn v => let datatype d = D in (v = u, u) end)")
	d.is("f", "!''a -> int * (''a -> bool * ''a)")
}

// P8.2: ELet: a type that has become too large is looked at, too.
func TestEscapeLarge(t *testing.T) {
	d := newDesk(t)
	b := d.e.Book()
	x, _ := b.Var(0, false, api.Any)
	y, _ := b.Var(0, false, api.Any)
	wide := x
	for range 9 {
		wide, _ = b.Record([]string{"1", "2"}, wide, wide)
	}
	deep := y
	for range 3 {
		deep, _ = b.Put(d.typ("list").Scheme, deep)
	}
	if e := b.Unify(x, deep); e != api.OK {
		t.Fatal(e)
	}
	v := d.e.Env()
	v.Vals = append(v.Vals, api.Entry{Name: "wide", Is: api.SVar, Scheme: api.Scheme{Type: wide}}, api.Entry{Name: "c", Is: api.SCon, Scheme: api.Scheme{Type: y}, Con: 7, Count: 1})
	d.e.Set(v)
	askFault(t, d, faults{"val x = §wide", api.EName, api.ErrLong})
	d.run("val x = let datatype d = D in 1 end")
	askFault(t, d, faults{"val x = §let datatype d = D in (c = D; 1) end", api.ELet, api.ErrEscape})
}
