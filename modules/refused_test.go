package modules

import (
	"reflect"
	"slices"
	"strconv"
	"strings"
	"testing"

	"kiln/api"
	"kiln/elab"
)

// weak is a checker with names whose types are not known yet, in structures and functors, too.
const weak = "val r = ref nil val s = ref nil val q = (r, s) structure S = struct val w = ref nil val v = r structure K = struct val k = (w, ref nil) end end functor F (X : sig end) = struct val b = ref nil val c = r end structure P = F (struct end) val f = (fn x => x) (fn x => x) val e = (fn x => x) (fn (x, y) => (x = y, s)) "

// weakTypes are the types of its names.
func weakTypes() map[string]string {
	return map[string]string{
		"r": "'a list ref", "s": "'a list ref", "q": "'a list ref * 'b list ref", "S.w": "'a list ref", "S.v": "'a list ref", "S.K.k": "'a list ref * 'b list ref",
		"P.b": "'a list ref", "P.c": "'a list ref", "f": "'a -> 'a", "e": "''a * ''a -> bool * 'b list ref",
	}
}

// numbers are the types that names have, by their numbers in the book.
func (d *desk) numbers(names map[string]string) map[string]int {
	l := map[string]int{}
	for name := range names {
		l[name] = d.val(name).Scheme.Type
	}
	return l
}

// P10.1: of a declaration with a fault there is nothing: what those ahead of it put there has the types that it had, though declarations in it that were taken turned these.
func TestRefusedTypes(t *testing.T) {
	d := played(t, weak)
	want := weakTypes()
	for name, text := range want {
		d.is(name, text)
	}
	numbers, before := d.numbers(want), d.names()
	for _, text := range []string{
		"structure A = struct val u = r := [1] val b = 1 2 end",
		"local val u = r := [1] in val b = 1 2 end",
		"local in val u = r := [1] val b = nobody end",
		"structure A = struct val u = r := [1] end and B = U",
		"structure A = let val u = r := [1] in B end",
		"functor G (X : sig end) = struct val u = (s := [1]; r := [1]) val b = 1 2 end",
		"functor G (X : sig end) = struct val u = (s := [1]; r := [1]) end and H (X : nobody) = X",
		"structure A = struct structure B = struct val u = S.w := [1] end structure C = U end",
		"structure A = struct structure B = S val u = (B.w := [1]; #2 B.K.k := [2]) val b = 1 2 end",
		"structure A = struct open S val u = (w := [1]; v := [2]; #2 K.k := [3]) val b = 1 2 end",
		"structure A = struct open S open K val u = (#1 k := [1]; #2 k := [3]) val b = 1 2 end",
		"structure A = struct val u = let open S in w := [1] end val b = 1 2 end",
		"structure A = struct val u = let open S K in #2 k := [1] end val b = 1 2 end",
		"structure A = struct structure B = F (struct end) val u = (B.b := [1]; B.c := [2]) val b = 1 2 end",
		"structure A = struct structure B = F (S) structure C = F (B) val u = (C.b := [1]; C.c := [2]) structure D = F (U) end",
		"structure A = struct val u = r := !s val b = 1 2 end",
		"structure A = struct val u = r val x = u := [1] val y = s := u val b = 1 2 end",
		"structure A = struct val u = f 1 val b = 1 2 end",
		"structure A = struct val u = e (1, 2) val b = 1 2 end",
		"structure A = struct val u = (!r = nil) val b = 1 2 end",
		"structure A = struct val u = #1 q := [1] val u = #2 q := [true] val u = r := [true] end",
		"structure A = struct val u = r := [1] end : sig val v : int end",
		"structure A = struct val u = r := [1] end :> sig val u : int end",
		"structure A : sig val r : int list ref end = struct val r = r val u = r := [true] end",
		"structure A = struct datatype d = D val u = r := [D] val b = 1 2 end",
		"structure A = struct exception E of int val u = r := [E] val x = s := [r] val b = 1 2 end",
		"local structure B = S in structure C = struct open B val u = w := [1] end val b = 1 2 end",
		"structure A = struct val u = r := [1] signature G = sig end end",
		"local val u = r := [1] functor G (X : sig end) = X in end",
	} {
		at, e := d.play(text)
		if e == api.OK {
			t.Errorf("%q: not refused", text)
		}
		if at < 0 {
			t.Errorf("%q: no place", text)
		}
		for name, text := range want {
			d.is(name, text)
		}
		if !reflect.DeepEqual(d.numbers(want), numbers) || d.names() != before {
			t.Errorf("%q: other types, or names", text)
		}
	}
	d.run("structure A = struct val u = r := [1] val x = S.w := [true] val y = P.b := [\"a\"] val z = f \"b\" val g = s := [#\"a\"] val h = e (r, r) end")
	for name, text := range map[string]string{
		"r": "int list ref", "s": "char list ref", "q": "int list ref * char list ref", "S.w": "bool list ref", "S.v": "int list ref", "S.K.k": "bool list ref * 'a list ref",
		"P.b": "string list ref", "P.c": "int list ref", "f": "string -> string", "e": "int list ref * int list ref -> bool * char list ref",
	} {
		d.is(name, text)
	}
}

// P10.1: what a declaration that is taken says of types that were not known holds from there on, in it and behind it, for all names that have them.
func TestTakenTypes(t *testing.T) {
	d := played(t, weak+"structure A = struct val u = r := !s structure B = struct open S val v' = v end val x = B.v' := [1] end")
	for _, name := range []string{"r", "s", "S.v", "P.c", "A.B.v'", "A.B.v"} {
		d.is(name, "int list ref")
	}
	d.is("q", "int list ref * int list ref", "S.w", "'a list ref")
	d = played(t, weak+"structure A = struct structure B = S structure C = F (struct end) val x = (B.w := [1]; C.b := [true]) end")
	d.is("S.w", "int list ref", "S.K.k", "int list ref * 'a list ref", "P.b", "bool list ref", "A.B.w", "int list ref", "A.C.b", "bool list ref")
	if got := d.m.Functors()[0].Body.Vals[0]; got.Name != "b" || d.text(got.Scheme.Type) != "bool list ref" {
		t.Errorf("F's b : %s", d.text(got.Scheme.Type))
	}
	d = played(t, weak+"functor G (X : sig val x : int end) = struct val u = r := [X.x] val v = S.w end structure A = G (struct val x = 1 end) val y = A.v := [2]")
	d.is("r", "int list ref", "S.w", "int list ref", "A.v", "int list ref")
	tryWrong(t, []wrong{
		{weak + "structure A = struct val u = r := [1] val v = q val w = #1 v := [true] end", api.ErrUnify, api.EApp, ""},
		{weak + "structure A = struct val u = r := [1] end val v = S.v := [true]", api.ErrUnify, api.EApp, ""},
		{weak + "structure A = struct structure B = S val u = B.w := [1] val v = S.w := [true] end", api.ErrUnify, api.EApp, ""},
		{weak + "structure A = struct open S val u = w := [1] structure C = S val v = C.w := [true] end", api.ErrUnify, api.EApp, ""},
		{weak + "structure A = struct structure B = F (struct end) structure C = F (struct end) val u = B.b := [1] val v = C.b := [true] end", api.ErrUnify, api.EApp, ""},
		{weak + "local val u = r in val v = u := [1] end val w = P.c := [true]", api.ErrUnify, api.EApp, ""},
		{weak + "structure A = struct val u = r end structure B = struct val v = A.u := [1] end structure C = struct val w = q val x = #1 w := [true] end", api.ErrUnify, api.EApp, ""},
	})
}

// A signature's and a type's variables that are not known, in environments by hand; with classes, for records, rigid ones.
func TestRefusedByHand(t *testing.T) {
	build := func() *desk {
		d := newDesk(t)
		b, v := d.m.Elab().Book(), d.env()
		num, _ := b.Var(0, false, api.Num)
		loose, _ := b.Var(0, false, api.Any)
		open, _ := b.Open(0, []string{"a", "b"}, loose, num)
		equal, _ := b.Var(0, true, api.Any)
		rigid, _ := b.Rigid(0, "'r")
		arrow, _ := b.Arrow(loose, rigid)
		for name, t := range map[string]int{"n": num, "l": loose, "rc": open, "q": equal, "i": rigid} {
			v.Vals = append(v.Vals, api.Entry{Name: name, Is: api.SVar, Scheme: api.Scheme{Type: t}})
			v.Types = append(v.Types, api.Typ{Name: name, Scheme: api.Scheme{Type: t}, Cons: []api.Entry{{Name: "C", Is: api.SCon, Con: 9, Count: 1, Arg: true, Scheme: api.Scheme{Type: arrow}}}})
		}
		v.Vals = append(v.Vals, api.Entry{Name: "C", Is: api.SCon, Con: 9, Count: 1, Scheme: api.Scheme{Type: arrow}, Arg: true})
		slices.SortFunc(v.Vals, func(a, b api.Entry) int { return strings.Compare(a.Name, b.Name) })
		d.m.Elab().Set(v)
		d.run("signature G = sig type t = l exception E of l type u = n end")
		return d
	}
	want := map[string]string{"n": "'a#", "l": "'a", "rc": "{a : 'b, b : 'c#, .. 'a}", "q": "''a", "i": "'r", "C": "'a -> 'r"}
	d := build()
	for name, text := range want {
		d.is(name, text)
	}
	for _, text := range []string{
		"structure A = struct val u = n + 1.0 val b = nobody end",
		"structure A = struct val u = l : int val b = nobody end",
		"structure A = struct val u = 1 : l val b = nobody end",
		"structure A = struct val u = rc : {a : int, b : int, c : int} val b = nobody end",
		"structure A = struct val u = #a rc + 1 val b = nobody end",
		"structure A = struct val u = (q = 1) val b = nobody end",
		"structure A = struct val u = C 1 val b = nobody end",
		"structure A = struct datatype c = datatype l val u = C 1 val b = nobody end",
		"structure A = struct structure B : G = struct type t = l exception E of l type u = n end val u = (1 : B.t, 2 : B.u) val b = nobody end",
		"structure A = struct val u = fn (x : n) => x + 1.0 val b = nobody end",
		"structure A = struct val u = i : int end",
	} {
		wrong := api.ErrUnbound // nobody
		if strings.Contains(text, "#a") {
			wrong = api.ErrFields // the record is open
		}
		if strings.Contains(text, "val u = i") {
			wrong = api.ErrRigid
		}
		if _, e := d.play(text); e != wrong {
			t.Errorf("%q: %v", text, e)
		}
		for name, text := range want {
			d.is(name, text)
		}
	}
	d.run("structure A = struct val x = ((rc : {a : int, b : real, c : int}), fn C y => y + 1) val y = q = 1 end")
	d.is("n", "real", "l", "int", "rc", "{a : int, b : real, c : int}", "q", "int", "C", "int -> 'r", "i", "'r")
}

// A type that was there, and becomes too large while a declaration is gone over: that one is taken, and nobody can use what has the type.
func TestGrownTypes(t *testing.T) {
	tuple := func(n int, s string) string { return "(" + strings.Repeat(s+", ", n-1) + s + ")" }
	grow := "fun y z = " + tuple(100, "z") + " val u = r := [" + tuple(4, "!s") + "] val v = s := [" + tuple(6, "y 1") + "]"
	for _, text := range []string{"structure A = struct " + grow + " end", "local " + grow + " in end", "functor G (X : sig end) = struct " + grow + " end"} {
		d := played(t, "val r = ref nil val s = ref nil val c = (r, 1) structure S = struct val p = ref r val q = s end val k = ref nil")
		next := d.m.Elab().Fresh()
		if at, e := d.play(text + " val it = k := [1]"); e != api.OK {
			t.Fatalf("%q: %v at %v", text, e, d.l[max(at, 0)])
		}
		d.is("k", "int list ref")
		if got := d.val("it").At.Id; got > next+10 {
			t.Errorf("%q: the number %d behind %d", text, got, next)
		}
		for _, name := range []string{"r", "c", "S.p"} {
			path, last := long(name)
			e, _ := elab.Find(d.env(), path, last)
			if _, errno := d.m.Elab().Book().Text(e.Scheme.Type); errno != api.ErrLong {
				t.Errorf("%q: %s is not too large: %v", text, name, errno)
			}
			if _, errno := d.play("val x = " + name); errno != api.ErrLong {
				t.Errorf("%q: %s: %v", text, name, errno)
			}
		}
		if got := d.text(d.val("s").Scheme.Type); len(got) < 1500 || d.text(d.val("S.q").Scheme.Type) != got {
			t.Errorf("%q: s : %s", text, got)
		}
		b := d.m.Elab().Book()
		is, _ := b.Look(d.val("r").Scheme.Type)
		list, _ := b.Look(is.Args[0])
		pair, _ := b.Look(list.Args[0])
		if is.Con != api.ConRef || pair.Kind != api.YRec || len(pair.Args) != 4 {
			t.Fatalf("%q: r is %v of %v of %v", text, is, list, pair)
		}
		for _, part := range pair.Args {
			want, _ := b.Look(d.val("s").Scheme.Type)
			if got := d.text(part); got != d.text(want.Args[0]) {
				t.Errorf("%q: a part of r : %s", text, got)
			}
		}
		d = played(t, "val r = ref nil val s = ref nil")
		if _, e := d.play(strings.TrimSuffix(text, "end") + "val b = nobody end"); e != api.ErrUnbound {
			t.Fatalf("%q: %v", text, e)
		}
		d.is("r", "'a list ref", "s", "'a list ref")
	}
}

// A type that was there, and becomes so large that nobody could write it out.
func TestDoubledTypes(t *testing.T) {
	const n = 60
	refs, uses := "", ""
	for i := range n {
		k, next := strconv.Itoa(i), strconv.Itoa(i+1)
		refs += "val r" + k + " = ref nil "
		uses += "val u" + k + " = r" + k + " := [(!r" + next + ", !r" + next + ")] "
	}
	d := played(t, refs+"val r"+strconv.Itoa(n)+" = ref nil structure A = struct "+uses+"end structure B = struct val v = r"+strconv.Itoa(n)+" := [1] end")
	b := d.m.Elab().Book()
	d.is("r"+strconv.Itoa(n), "int list ref", "r"+strconv.Itoa(n-1), "(int list * int list) list ref")
	is, depth := d.val("r0").Scheme.Type, 0
	for {
		part, _ := b.Look(is)
		if part.Con == api.ConInt && part.Kind == api.YCon {
			break
		}
		if len(part.Args) == 2 {
			depth++
		}
		is = part.Args[len(part.Args)-1]
	}
	if depth != n {
		t.Errorf("r0 is %d pairs deep", depth)
	}
	if _, e := d.play("val x = r0"); e != api.ErrLong {
		t.Errorf("r0: %v", e)
	}
}

// Notes and parts of nodes that stand below a declaration ahead, too, are what that one made them.
func TestRefusedNotes(t *testing.T) {
	d := newDesk(t)
	l, root := bareTree(t, "structure S = struct val x = 1 exception E end structure T = struct val x = true val b = nobody end")
	// T's structure has S's declarations ahead of its own.
	kids := l[root].Kids
	first, second := l[l[l[kids[0]].Kids[0]].Kids[0]].Kids[0], l[l[l[kids[1]].Kids[0]].Kids[0]].Kids[0]
	l[second].Kids = append(slices.Clone(l[first].Kids), l[second].Kids...)
	l[l[l[kids[1]].Kids[0]].Kids[0]].Kids[0] = second
	d.l, d.root = l, root
	if at, e := d.start(); e != api.ErrUnbound {
		t.Fatalf("%v at %d", e, at)
	}
	notes, parts := d.m.Elab().Notes(), make([][]api.Part, len(l))
	for i := range l {
		parts[i] = d.m.Parts(i)
	}
	other := newDesk(t)
	other.l, other.root = slices.Clone(l), root
	other.l[root].Kids = kids[:1]
	if at, e := other.start(); e != api.OK {
		t.Fatalf("%v at %d", e, at)
	}
	if want := other.m.Elab().Notes(); !reflect.DeepEqual(notes, want) {
		t.Errorf("the notes %v; want %v", notes, want)
	}
	for i := range l {
		if want := other.m.Parts(i); !reflect.DeepEqual(parts[i], want) {
			t.Errorf("the parts of %d: %v; want %v", i, parts[i], want)
		}
	}
}
