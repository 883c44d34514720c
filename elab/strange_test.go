package elab

import (
	"reflect"
	"slices"
	"strconv"
	"testing"

	"kiln/api"
)

// Rule 1: DRec of a hand-made tree: no name, a long name, a name twice, no function.
func TestStrangeRec(t *testing.T) {
	for name, pattern := range map[string]api.Node{"no name": {Kind: api.PWild}, "a long name": {Kind: api.PName, Text: "x", Path: []string{"A"}}, "a PAs": {Kind: api.PAs, Text: "x", Kids: []int{0}}} {
		d := newDesk(t)
		d.hand(api.PWild, "")
		d.l = append(d.l, pattern)
		typed := d.hand(api.PTyped, "", 1, d.hand(api.TCon, "int"))
		bind := d.hand(api.NBind, "", typed, d.hand(api.NInt, "1"))
		d.handTop(d.hand(api.DRec, "", bind))
		if at, e := d.dec(d.root - 1); e != api.ErrRec || at != bind {
			t.Errorf("%s: %v at %d", name, e, at)
		}
	}
	d := newDesk(t)
	one := d.hand(api.NBind, "", d.hand(api.PName, "x"), d.hand(api.NInt, "1"))
	other := d.hand(api.NBind, "", d.hand(api.PName, "x"), d.hand(api.NString, ""))
	d.handTop(d.hand(api.DRec, "", one, other))
	if at, e := d.dec(d.root - 1); e != api.OK {
		t.Errorf("a name twice: %v at %d", e, at)
	}
	d.is("x", "string")
}

// Rule 1: type declarations of a hand-made tree: type variables that do not stand ahead, or twice.
func TestStrangeTypeVariables(t *testing.T) {
	d := newDesk(t)
	tyvar := d.hand(api.TVar, "'b")
	d.handTop(d.hand(api.DType, "", d.hand(api.NTybind, "t", d.hand(api.TVar, "'a"), tyvar)))
	if at, e := d.dec(d.root - 1); e != api.ErrUnbound || at != tyvar {
		t.Errorf("a type: %v at %d", e, at)
	}
	d = newDesk(t)
	tyvar = d.hand(api.TVar, "'b")
	d.handTop(d.hand(api.DData, "", d.hand(api.NDatbind, "t", d.hand(api.TVar, "'a"), d.hand(api.NCon, "A", tyvar))))
	if at, e := d.dec(d.root - 1); e != api.ErrUnbound || at != tyvar {
		t.Errorf("a datatype: %v at %d", e, at)
	}
	d = newDesk(t)
	first, second, third := d.hand(api.TVar, "'a"), d.hand(api.TVar, "'a"), d.hand(api.TVar, "'a")
	d.handTop(d.hand(api.DType, "", d.hand(api.NTybind, "t", first, second, third)))
	if at, e := d.dec(d.root - 1); e != api.OK {
		t.Fatalf("twice: %v at %d", e, at)
	}
	if s := d.typ("t").Scheme; len(s.Vars) != 2 || s.Type != s.Vars[1] {
		t.Errorf("twice: %v: not the last one", s)
	}
}

// Rule 1: within a DVal a datatype may name a type variable of it, in a hand-made tree: then that one's equality counts.
func TestStrangeDatatypes(t *testing.T) {
	for name, want := range map[string]api.Equality{"'b": api.Never, "''b": api.If} {
		d := newDesk(t)
		data := d.hand(api.DData, "", d.hand(api.NDatbind, "t", d.hand(api.NCon, "A", d.hand(api.TVar, name))))
		let := d.hand(api.ELet, "", d.hand(api.NDecs, "", data), d.hand(api.NInt, "1"))
		d.handVal(d.hand(api.PWild, ""), let)
		if at, e := d.dec(d.root); e != api.OK {
			t.Fatalf("%v at %d", e, at)
		}
		con := 9 // behind bool and list
		for {
			if _, _, _, ok := d.e.Book().Named(con + 1); !ok {
				break
			}
			con++
		}
		if _, _, got, _ := d.e.Book().Named(con); got != want {
			t.Errorf("%s: equality %d; want %d", name, got, want)
		}
	}
}

// Rule 1: constructors of one name twice in a hand-made tree.
func TestStrangeConstructors(t *testing.T) {
	d := newDesk(t)
	bind := d.hand(api.NDatbind, "t", d.hand(api.NCon, "B"), d.hand(api.NCon, "A"), d.hand(api.NCon, "B", d.hand(api.TCon, "int")))
	again := d.hand(api.NDatbind, "t", d.hand(api.NCon, "C", d.hand(api.TCon, "t")))
	d.handTop(d.hand(api.DData, "", bind, again))
	if at, e := d.dec(d.root - 1); e != api.OK {
		t.Fatalf("%v at %d", e, at)
	}
	if got := d.val("B"); !got.Arg || got.Tag != 1 || got.Count != 3 {
		t.Errorf("B: %v", got)
	}
	d.is("C", "t -> t")
	if d.val("C").Con == d.val("A").Con {
		t.Error("two datatypes are one")
	}
}

// Rule 1: nodes that stand at several places.
func TestSharedNodes(t *testing.T) {
	d := newDesk(t)
	plus := d.hand(api.EName, "+")
	ints := d.hand(api.NField, "1", d.hand(api.NInt, "1"))
	int2 := d.hand(api.NField, "2", d.hand(api.NInt, "2"))
	real1 := d.hand(api.NField, "1", d.hand(api.NReal, "1.0"))
	real2 := d.hand(api.NField, "2", d.hand(api.NReal, "2.0"))
	one := d.hand(api.EApp, "", plus, d.hand(api.ERecord, "", ints, int2))
	other := d.hand(api.EApp, "", plus, d.hand(api.ERecord, "", real1, real2))
	d.handVal(d.hand(api.PName, "it"), d.hand(api.ERecord, "", d.hand(api.NField, "a", one), d.hand(api.NField, "b", other)))
	if at, e := d.dec(d.root); e != api.OK {
		t.Fatalf("%v at %d", e, at)
	}
	d.is("it", "{a : int, b : real}")
	if got := d.e.Notes()[plus]; got.Is != api.SPrim || got.Con != api.ConReal {
		t.Errorf("+: %v: not as it stands last", got)
	}

	d = newDesk(t)
	name := d.hand(api.EName, "+") // first the primitive, then a variable
	bound := d.hand(api.NRule, "", d.hand(api.PName, "+"), name)
	d.handVal(d.hand(api.PName, "it"), d.hand(api.ERecord, "", d.hand(api.NField, "1", name), d.hand(api.NField, "2", d.hand(api.EFn, "", bound))))
	if at, e := d.dec(d.root); e != api.OK {
		t.Fatalf("%v at %d", e, at)
	}
	d.is("it", "!(int * int -> int) * ('a -> 'a)")
	if got := d.e.Notes()[name]; !reflect.DeepEqual(got, api.Note{Is: api.SVar, At: api.Access{Id: 100}}) {
		t.Errorf("+: %v: not as it stands last", got)
	}

	d = newDesk(t)
	dots := d.hand(api.PRecord, "", d.hand(api.NField, "a", d.hand(api.PWild, "")), d.hand(api.PDots, ""))
	loose := d.hand(api.EFn, "", d.hand(api.NRule, "", dots, d.hand(api.NInt, "1")))
	fixed := d.hand(api.EApp, "", loose, d.hand(api.ERecord, "", d.hand(api.NField, "a", d.hand(api.NInt, "1"))))
	d.handVal(d.hand(api.PWild, ""), d.hand(api.ERecord, "", d.hand(api.NField, "1", loose), d.hand(api.NField, "2", fixed)))
	if at, e := d.dec(d.root); e != api.ErrFields || at != dots {
		t.Errorf("a record that is open at one of its places: %v at %d", e, at)
	}

	d = newDesk(t)
	wide := d.hand(api.EName, "nil")
	for range 40 { // written out it would be far too large
		wide = d.hand(api.ERecord, "", d.hand(api.NField, "1", wide), d.hand(api.NField, "2", wide))
	}
	d.handVal(d.hand(api.PWild, ""), wide)
	if _, e := d.dec(d.root); e != api.ErrLong {
		t.Errorf("a tree of as many nodes, written out, as nobody could write: %v", e)
	}
}

// P8.2: nodes may stand at many places: as long as these are no more items than the document speaks of, no error comes of it.
func TestManyPlaces(t *testing.T) {
	record := func(d *desk, part int) int {
		var fields []int
		for i := range 256 {
			fields = append(fields, d.hand(api.NField, strconv.Itoa(i+1), part))
		}
		return d.hand(api.TRec, "", fields...)
	}
	for name, build := range map[string]func(d *desk) int{
		"types": func(d *desk) int {
			ty := record(d, d.hand(api.TVar, "'a"))
			typed := d.hand(api.PTyped, "", d.hand(api.PWild, ""), d.hand(api.TArrow, "", ty, ty))
			fn := d.hand(api.EFn, "", d.hand(api.NRule, "", d.hand(api.PName, "x"), d.hand(api.EName, "x")))
			return d.hand(api.DVal, "", slices.Repeat([]int{d.hand(api.NBind, "", typed, fn)}, 20000)...)
		},
		"types in types": func(d *desk) int { // which nobody could write out
			ty := d.hand(api.TCon, "int")
			for range 60 {
				ty = d.hand(api.TCon, "phantom", ty, ty)
			}
			return d.hand(api.DExn, "", d.hand(api.NCon, "E", ty))
		},
		"constants": func(d *desk) int {
			bind := d.hand(api.NBind, "", d.hand(api.NInt, "1"), d.hand(api.NInt, "2"))
			return d.hand(api.DVal, "", slices.Repeat([]int{bind}, 3<<19)...)
		},
		"names": func(d *desk) int {
			bind := d.hand(api.NBind, "", d.hand(api.NInt, "1"), d.hand(api.EName, "one"))
			return d.hand(api.DVal, "", slices.Repeat([]int{bind}, 3<<19)...)
		},
		"handlers": func(d *desk) int {
			e := d.hand(api.NInt, "1")
			for range 20 {
				e = d.hand(api.EHandle, "", e, d.hand(api.NRule, "", d.hand(api.PName, "Div"), e))
			}
			return d.hand(api.DVal, "", d.hand(api.NBind, "", d.hand(api.PWild, ""), e))
		},
		"open": func(d *desk) int {
			open := d.hand(api.DOpen, "", slices.Repeat([]int{d.hand(api.SName, "Prim")}, 1<<18)...)
			let := d.hand(api.ELet, "", d.hand(api.NDecs, "", open, open, open), d.hand(api.EName, "size"))
			return d.hand(api.DVal, "", d.hand(api.NBind, "", d.hand(api.PName, "it"), let))
		},
		"local": func(d *desk) int {
			dec := d.hand(api.DType, "", d.hand(api.NTybind, "t", d.hand(api.TCon, "int")))
			local := d.hand(api.DLocal, "", d.hand(api.NDecs, "", dec), d.hand(api.NDecs, ""))
			return d.hand(api.DLocal, "", d.hand(api.NDecs, "", slices.Repeat([]int{local}, 3<<19)...), d.hand(api.NDecs, "", dec))
		},
	} {
		d := played(t, "type ('a, 'b) phantom = int val one = 1")
		d.l = nil
		d.root = build(d)
		d.start()
		if at, e := d.dec(d.root); e != api.OK {
			t.Errorf("%s: %v at %d", name, e, at)
		}
	}
}

// Rule 1: trees that are small, but whose nodes stand at more places than anybody could go over.
func TestTooManyPlaces(t *testing.T) {
	for name, build := range map[string]func(d *desk) int{
		"handle": func(d *desk) int {
			e := d.hand(api.NInt, "1")
			for range 60 {
				e = d.hand(api.EHandle, "", e, d.hand(api.NRule, "", d.hand(api.PName, "Div"), e))
			}
			return d.hand(api.DVal, "", d.hand(api.NBind, "", d.hand(api.PWild, ""), e))
		},
		"exceptions": func(d *desk) int {
			dec := d.hand(api.DExn, "", d.hand(api.NCon, "E"))
			for range 60 {
				dec = d.hand(api.DLocal, "", d.hand(api.NDecs, ""), d.hand(api.NDecs, "", dec, dec))
			}
			return dec
		},
		"open": func(d *desk) int {
			dec := d.hand(api.DOpen, "", d.hand(api.SName, "Prim"))
			for range 60 {
				dec = d.hand(api.DLocal, "", d.hand(api.NDecs, "", dec), d.hand(api.NDecs, "", dec, dec))
			}
			return dec
		},
	} {
		d := newDesk(t)
		d.root = build(d)
		d.start()
		env := d.e.Env()
		if _, e := d.dec(d.root); e != api.ErrMany {
			t.Errorf("%s: %v", name, e)
		}
		if !reflect.DeepEqual(d.e.Env(), env) {
			t.Errorf("%s: another environment", name)
		}
	}
}

// P8.2: a type's node that stands at several places is what it is at each: with other names around it, other type variables, or types that were turned, it is another type.
func TestTypesAgain(t *testing.T) {
	d := newDesk(t)
	named := d.hand(api.TCon, "t")
	value := func(name string) int { // fn (x : t) => x
		rule := d.hand(api.NRule, "", d.hand(api.PTyped, "", d.hand(api.PName, "x"), named), d.hand(api.EName, "x"))
		return d.hand(api.DVal, "", d.hand(api.NBind, "", d.hand(api.PName, name), d.hand(api.EFn, "", rule)))
	}
	alias := func(of string) int {
		return d.hand(api.DType, "", d.hand(api.NTybind, "t", d.hand(api.TCon, of)))
	}
	data := d.hand(api.DData, "", d.hand(api.NDatbind, "t", d.hand(api.NCon, "T", named)))
	inner := d.hand(api.DLocal, "", d.hand(api.NDecs, "", alias("bool")), d.hand(api.NDecs, "", value("c")))
	d.root = d.hand(api.DLocal, "", d.hand(api.NDecs, "", alias("int")), d.hand(api.NDecs, "", value("a"), alias("real"), value("b"), inner, value("d"), data, value("e")))
	d.start()
	if at, e := d.dec(d.root); e != api.OK {
		t.Fatalf("%v at %d", e, at)
	}
	for name, want := range map[string]string{"a": "int -> int", "b": "real -> real", "c": "bool -> bool", "d": "real -> real", "e": "t -> t", "T": "t -> t"} {
		d.is(name, want)
	}

	d = newDesk(t)
	named = d.hand(api.TCon, "t")
	let := func(of, text string, kind api.NodeKind) int { // a scope of names alone
		typed := d.hand(api.ETyped, "", d.hand(kind, text), named)
		return d.hand(api.ELet, "", d.hand(api.NDecs, "", alias(of)), typed)
	}
	fields := []int{d.hand(api.NField, "1", let("int", "1", api.NInt)), d.hand(api.NField, "2", let("string", "a", api.NString)), d.hand(api.NField, "3", let("real", "1.5", api.NReal))}
	d.handVal(d.hand(api.PName, "x"), d.hand(api.ERecord, "", fields...))
	if at, e := d.dec(d.root); e != api.OK {
		t.Fatalf("%v at %d", e, at)
	}
	d.is("x", "int * string * real")

	d = newDesk(t)
	ints := d.hand(api.TCon, "int") // in the first environment, with no scope around
	pair := d.hand(api.TRec, "", d.hand(api.NField, "1", ints), d.hand(api.NField, "2", ints))
	d.handTop(d.hand(api.DExn, "", d.hand(api.NCon, "E", pair), d.hand(api.NCon, "F", pair)))
	if at, e := d.dec(d.root - 1); e != api.OK {
		t.Fatalf("%v at %d", e, at)
	}
	d.is("E", "int * int -> exn")
	d.is("F", "int * int -> exn")

	d = newDesk(t)
	variable := d.hand(api.TVar, "'a")
	fn := func() int {
		rule := d.hand(api.NRule, "", d.hand(api.PTyped, "", d.hand(api.PName, "x"), variable), d.hand(api.EName, "x"))
		return d.hand(api.EFn, "", rule)
	}
	one := d.hand(api.DVal, "", d.hand(api.NBind, "", d.hand(api.PName, "f"), fn()))
	other := d.hand(api.DVal, "", d.hand(api.NBind, "", d.hand(api.PName, "g"), fn()))
	both := d.hand(api.DVal, "", d.hand(api.NBind, "", d.hand(api.PName, "h"), fn()), d.hand(api.NBind, "", d.hand(api.PName, "i"), fn()))
	d.handTop(d.hand(api.DLocal, "", d.hand(api.NDecs, ""), d.hand(api.NDecs, "", one, other, both)))
	if at, e := d.dec(d.root - 1); e != api.OK {
		t.Fatalf("%v at %d", e, at)
	}
	for _, name := range []string{"f", "g", "h", "i"} {
		d.is(name, "!'a -> 'a")
	}
}

// P8.2: a type of an environment that was set, of which something becomes: at each place it is what it is by then.
func TestLooseTypesAgain(t *testing.T) {
	d := newDesk(t)
	v := d.e.Env()
	for _, name := range []string{"y", "z", "w"} { // a value, and a type likewise
		loose, _ := d.e.Book().Var(0, false, api.Any)
		v.Types = append(v.Types, api.Typ{Name: name, Scheme: api.Scheme{Type: loose}})
		v.Vals = append(v.Vals, api.Entry{Name: name, Is: api.SVar, Scheme: api.Scheme{Type: loose}})
	}
	d.e.Set(v)
	tuple := func(n, part int) int {
		var fields []int
		for i := range n {
			fields = append(fields, d.hand(api.NField, strconv.Itoa(i+1), part))
		}
		return d.hand(api.TRec, "", fields...)
	}
	again := d.hand(api.TCon, "y")
	var fields []int
	for i, f := range []struct {
		name string
		ty   int
	}{
		{"y", again},
		{"y", tuple(2, d.hand(api.TCon, "z"))},
		{"w", again},
		{"z", tuple(11, tuple(100, d.hand(api.TCon, "int")))},
		{"w", again}, // too large now, by the name as by the type
	} {
		fields = append(fields, d.hand(api.NField, strconv.Itoa(i+1), d.hand(api.ETyped, "", d.hand(api.EName, f.name), f.ty)))
	}
	fields[4] = d.hand(api.NField, "5", d.hand(api.ETyped, "", d.hand(api.NInt, "1"), again))
	d.handVal(d.hand(api.PWild, ""), d.hand(api.ERecord, "", fields...))
	if at, e := d.dec(d.root); e != api.ErrLong || at != again {
		t.Errorf("%v at %d; want it at %d", e, at, again)
	}
	for i, f := range fields[:4] {
		if i == 2 {
			d.is("w", "'a")
		}
		d.handVal(d.hand(api.PWild, ""), d.l[f].Kids[0])
		if at, e := d.dec(d.root); e != api.OK {
			t.Fatalf("%v at %d", e, at)
		}
	}
	d.handVal(d.hand(api.PWild, ""), d.hand(api.EName, "w"))
	if at, e := d.dec(d.root); e != api.ErrLong {
		t.Errorf("w: %v at %d", e, at)
	}
}

// P8.2: a declaration that is refused has left no note, wherever its nodes stand; and notes that were there are there.
func TestNotesAgain(t *testing.T) {
	d := newDesk(t)
	name, size := d.hand(api.EName, "true"), d.hand(api.EName, "Prim.size")
	d.l[size].Text, d.l[size].Path = "size", []string{"Prim"}
	field := func(label string, e int) int { return d.hand(api.NField, label, e) }
	good := d.hand(api.DVal, "", d.hand(api.NBind, "", d.hand(api.PWild, ""), d.hand(api.ERecord, "", field("1", name), field("2", size))))
	inner := d.hand(api.EFn, "", d.hand(api.NRule, "", d.hand(api.PName, "true'"), name), d.hand(api.NRule, "", d.hand(api.PWild, ""), name))
	bad := d.hand(api.DVal, "", d.hand(api.NBind, "", d.hand(api.PWild, ""), d.hand(api.ERecord, "", field("1", name), field("2", size), field("3", inner), field("4", name), field("5", size), field("6", d.hand(api.EName, "nobody")))))
	d.handTop(good, bad)
	if at, e := d.dec(good); e != api.OK {
		t.Fatalf("%v at %d", e, at)
	}
	want := d.e.Notes()
	if want[name].Is != api.SCon || want[size].Is != api.SPrim || want[size].Con != -1 {
		t.Fatalf("the notes %v", want)
	}
	if _, e := d.dec(bad); e != api.ErrUnbound {
		t.Fatal(e)
	}
	if got := d.e.Notes(); !reflect.DeepEqual(got, want) {
		t.Errorf("the notes %v; want %v", got, want)
	}
}

// P8.2: a name at several places, that is a primitive of one type at one of them, and of none at another: as it stands last.
func TestPrimitivesAgain(t *testing.T) {
	for _, last := range []string{"plain", "overloaded"} {
		d := newDesk(t)
		v := d.e.Env()
		v.Strs = append(v.Strs, api.Str{Name: "S", Env: api.Env{Vals: []api.Entry{{Name: "+", Is: api.SPrim, Scheme: d.val("div").Scheme}}}})
		d.e.Set(v)
		plus := d.hand(api.EName, "+")
		plain := func() int {
			return d.hand(api.ELet, "", d.hand(api.NDecs, "", d.hand(api.DOpen, "", d.hand(api.SName, "S"))), plus)
		}
		real := func() int {
			ty := d.hand(api.TCon, "real")
			two := d.hand(api.TRec, "", d.hand(api.NField, "1", ty), d.hand(api.NField, "2", ty))
			return d.hand(api.ETyped, "", plus, d.hand(api.TArrow, "", two, ty))
		}
		list := []int{plain(), plain(), real(), plain(), real(), real()}
		want := api.ConReal
		if last == "plain" {
			list, want = append(list, plain(), plain()), -1
		}
		var fields []int
		for i, e := range list {
			fields = append(fields, d.hand(api.NField, strconv.Itoa(i+1), e))
		}
		d.handVal(d.hand(api.PWild, ""), d.hand(api.ERecord, "", fields...))
		if at, e := d.dec(d.root); e != api.OK {
			t.Fatalf("%v at %d", e, at)
		}
		if got := d.e.Notes()[plus]; got.Is != api.SPrim || got.Con != want {
			t.Errorf("%s: %v; want %d", last, got, want)
		}
	}
}

// Rule 1: deep trees.
func TestDeep(t *testing.T) {
	const depth = 1 << 16
	d := newDesk(t)
	e := d.hand(api.NInt, "1")
	for range depth {
		e = d.hand(api.ETyped, "", e, d.hand(api.TCon, "int"))
	}
	d.handVal(d.hand(api.PName, "it"), e)
	if at, errno := d.dec(d.root); errno != api.OK {
		t.Fatalf("%v at %d", errno, at)
	}
	d.is("it", "int")

	d = newDesk(t)
	e = d.hand(api.EName, "x")
	for range depth / 4 {
		dec := d.hand(api.DVal, "", d.hand(api.NBind, "", d.hand(api.PName, "x"), e))
		e = d.hand(api.ELet, "", d.hand(api.NDecs, "", dec), d.hand(api.EName, "x"))
	}
	d.handVal(d.hand(api.PName, "it"), d.hand(api.EFn, "", d.hand(api.NRule, "", d.hand(api.PName, "x"), e)))
	if at, errno := d.dec(d.root); errno != api.OK {
		t.Fatalf("%v at %d", errno, at)
	}
	d.is("it", "!'a -> 'a")

	d = newDesk(t)
	e = d.hand(api.NInt, "1")
	for range depth / 4 {
		e = d.hand(api.EFn, "", d.hand(api.NRule, "", d.hand(api.PWild, ""), e))
	}
	d.handVal(d.hand(api.PName, "it"), e)
	if _, errno := d.dec(d.root); errno != api.ErrLong {
		t.Errorf("a function of so many arguments: %v", errno)
	}
}

// Rule 1: environments that are made by hand.
func TestStrangeEnvironments(t *testing.T) {
	text := "val a = x val b = fn c => c val d = fn c e => e exception E = x datatype u = datatype t val f = fn (g : t) => g"
	for _, is := range []api.Naming{-1, 0, api.SVar, api.SCon, api.SExn, api.SPrim, 5, 1 << 40} {
		for _, s := range []api.Scheme{{Type: -1}, {Type: 1 << 40}, {Vars: []int{-1}, Type: 0}, {Vars: []int{0}, Type: 0}, {Vars: []int{6, 6}, Type: 6}, {Type: 0}, {Type: 5}} {
			for _, arg := range []bool{false, true} {
				d := newDesk(t)
				e := api.Entry{Name: "x", Is: is, Scheme: s, Con: -9, Tag: -8, Count: -7, Arg: arg}
				c := e
				c.Name = "c"
				d.e.Set(api.Env{Vals: []api.Entry{e, c}, Types: []api.Typ{{Name: "t", Scheme: s, Cons: []api.Entry{e, c}}}, Strs: []api.Str{{Name: "S", Env: api.Env{Vals: []api.Entry{e}}}}})
				d.begin(text)
				for _, i := range d.l[d.root].Kids {
					d.dec(i)
				}
				d.play("val y = let open S in x end")
				d.play("open S")
			}
		}
	}
}

// P8.2: a constructor that says that it takes something, though its type does not, takes nothing.
func TestStrangeArgument(t *testing.T) {
	d := newDesk(t)
	v := d.e.Env()
	v.Vals = append(v.Vals, api.Entry{Name: "c", Is: api.SCon, Scheme: d.typ("int").Scheme, Arg: true})
	d.e.Set(v)
	askFault(t, d, faults{"val f = fn §c 1 => 1", api.PName, api.ErrPat})
	v.Vals = append(v.Vals, api.Entry{Name: "c", Is: api.SCon, Scheme: d.val("::").Scheme})
	d.e.Set(v)
	askFault(t, d, faults{"val f = fn §c (1, nil) => 1", api.PName, api.ErrPat})
	d.run("val f = fn c => 1")
	d.is("f", "!('a * 'a list -> 'a list) -> int")
}

// P8.2: what the book says of a scheme that is none of its own is told at the name.
func TestStrangeSchemes(t *testing.T) {
	for _, is := range []api.Naming{api.SVar, api.SCon, api.SExn, api.SPrim} {
		for _, arg := range []bool{false, true} {
			d := newDesk(t)
			v := d.e.Env()
			v.Vals = append(v.Vals, api.Entry{Name: "c", Is: is, Scheme: api.Scheme{Type: -1}, Arg: arg})
			v.Types = append(v.Types, api.Typ{Name: "t", Scheme: api.Scheme{Type: -1}})
			d.e.Set(v)
			askFault(t, d, faults{"val f = fn x => §c", api.EName, api.ErrType})
			askFault(t, d, faults{"val f = fn (x : §t) => x", api.TCon, api.ErrType})
			if is == api.SCon || is == api.SExn {
				if arg {
					askFault(t, d, faults{"val f = fn (1, §c x) => 1", api.PName, api.ErrType})
				} else {
					askFault(t, d, faults{"val f = fn (1, §c) => 1", api.PName, api.ErrType})
				}
			}
		}
	}
}

// fill makes a book full, but for a number of types.
func (d *desk) fill(left int) {
	d.t.Helper()
	b := d.e.Book()
	last, _ := b.Var(0, false, api.Any)
	for range api.MaxTypes - 1 - last - left {
		if _, e := b.Var(0, false, api.Any); e != api.OK {
			d.t.Fatal(e)
		}
	}
}

// P8.2: a book that is full: what it can't make is told at the node for which it would be.
func TestFullBook(t *testing.T) {
	for _, f := range []struct {
		left int
		faults
	}{
		{0, faults{"val x = §{a = 1}", api.ERecord, api.ErrMany}},
		{0, faults{"val x = §fn _ => 1", api.EFn, api.ErrMany}},
		{2, faults{"val x = fn §_ => 1", api.PWild, api.ErrMany}},
		{2, faults{"val x = fn §{...} => 1", api.PRecord, api.ErrMany}},
		{0, faults{"val x = §op +", api.EName, api.ErrMany}},
		{1, faults{"val x = §op +", api.EName, api.ErrMany}},
		{0, faults{"val x = §nil", api.EName, api.ErrMany}},
		{0, faults{"datatype §t = A", api.NDatbind, api.ErrMany}},
		{0, faults{"type §'a t = int", api.TVar, api.ErrMany}},
		{0, faults{"val x = 1 : §int list", api.TCon, api.ErrMany}},
		{0, faults{"exception E of §int -> int", api.TArrow, api.ErrMany}},
		{0, faults{"exception §E of int", api.NCon, api.ErrMany}},
		{0, faults{"val §x = 1", api.PName, api.ErrMany}},
		{0, faults{"val x = 1 : §'a", api.TVar, api.ErrMany}},
		{0, faults{"val x = §raise Div", api.ERaise, api.ErrMany}},
		{0, faults{"val x = §f 1", api.EApp, api.ErrMany}},
		{1, faults{"val x = §f 1", api.EApp, api.ErrMany}},
		{0, faults{"val x = {a = §r}", api.EName, api.ErrMany}},
		{1, faults{"val x = {a = §r}", api.EName, api.ErrMany}},
	} {
		d := played(t, "val f = fn (x : int) => x val r = ref nil")
		d.fill(f.left)
		env := d.e.Env()
		askFault(t, d, f.faults)
		if !reflect.DeepEqual(d.e.Env(), env) {
			t.Errorf("%q: another environment", f.text)
		}
	}
}

// Rule 1: environments that are made by hand so that they are in themselves, or are nested deeper than anybody asks.
func TestEndlessEnvironments(t *testing.T) {
	d := newDesk(t)
	one := make([]api.Str, 1)
	one[0] = api.Str{Name: "S", Env: api.Env{Strs: one, Vals: []api.Entry{{Name: "x", Is: api.SVar, Scheme: d.typ("int").Scheme}}}}
	two := []api.Str{one[0], one[0]}
	two[1].Env.Strs, two[0].Env.Strs = two, two
	deep := api.Env{Vals: one[0].Env.Vals}
	for range 1 << 18 {
		deep = api.Env{Strs: []api.Str{{Name: "S", Env: deep}}, Vals: deep.Vals}
	}
	long := slices.Repeat([]string{"S"}, 1000)
	for name, v := range map[string]api.Env{"one": {Strs: one}, "two": {Strs: two}, "deep": deep} {
		if e, ok := Find(v, long, "x"); !ok || len(e.At.Path) != 1000 {
			t.Errorf("%s: Find: %v", name, ok)
		}
		if s, ok := FindStr(v, long); !ok || s.Name != "S" {
			t.Errorf("%s: FindStr: %v", name, ok)
		}
		FindType(v, long, "t")
		Slots(v)
		if e := d.e.Set(v); e != api.OK {
			t.Errorf("%s: Set: %v", name, e)
		}
		if got := d.e.Env(); len(got.Strs) != len(v.Strs) {
			t.Errorf("%s: Env: %d structures", name, len(got.Strs))
		}
		d.run("val y = S.x open S val z = let open S in x end")
		d.is("y", "int")
	}
}
