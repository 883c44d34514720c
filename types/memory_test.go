package types

import (
	"reflect"
	"slices"
	"strings"
	"testing"
	"unsafe"

	"kiln/api"
)

// Rule 3: all methods of a book that is nil, or that New did not make.
func TestNoBook(t *testing.T) {
	good := New()
	x, _ := good.Var(1, false, api.Any)
	copied := *good
	for name, b := range map[string]*Book{"nil": nil, "zero": {}, "a copy": &copied} {
		s := api.Scheme{Vars: []int{x}, Type: x}
		errnos := map[string]api.Errno{}
		numbers := map[string]int{}
		numbers["Con"], errnos["Con"] = b.Con("a", -1, 9)
		numbers["Var"], errnos["Var"] = b.Var(-1, false, 9)
		numbers["Rigid"], errnos["Rigid"] = b.Rigid(-1, "'a")
		numbers["Apply"], errnos["Apply"] = b.Apply(0, -1)
		numbers["Arrow"], errnos["Arrow"] = b.Arrow(x, -1)
		numbers["Record"], errnos["Record"] = b.Record([]string{"a"}, -1, x)
		numbers["Open"], errnos["Open"] = b.Open(-1, []string{"a"}, x)
		errnos["Unify"] = b.Unify(-1, x)
		errnos["Unify of one"] = b.Unify(x, x)
		errnos["Settle"] = b.Settle(x)
		var g api.Scheme
		g, errnos["Generalize"] = b.Generalize(x, -1)
		var l []int
		numbers["Instance"], l, errnos["Instance"] = b.Instance(s, -1)
		numbers["Put"], errnos["Put"] = b.Put(s)
		numbers["Replace"], errnos["Replace"] = b.Replace(x, 0, s)
		var text string
		text, errnos["Text"] = b.Text(x)
		for call, e := range errnos {
			if e != api.ErrNil || numbers[call] != 0 {
				t.Errorf("%s: %s: %d, %d", name, call, numbers[call], e)
			}
		}
		if g.Type != 0 || len(g.Vars) != 0 || len(l) != 0 || text != "" {
			t.Errorf("%s: %v, %v, %s", name, g, l, text)
		}
		if con, arity, equal, ok := b.Named(0); con != "" || arity != 0 || equal != 0 || ok {
			t.Errorf("%s: Named: %s", name, con)
		}
		if told, ok := b.Look(x); !sameType(told, api.Type{}) || ok {
			t.Errorf("%s: Look: %+v", name, told)
		}
		if len(b.Free(x)) != 0 || b.Equal(x) || b.Covers(s, s) {
			t.Errorf("%s: Free, Equal or Covers", name)
		}
	}
	if len(good.cells) != 1 || len(good.cons) != 7 {
		t.Error("a copy's calls have changed the book")
	}
}

// Rule 4: nil and empty lists are the same.
func TestNilAndEmpty(t *testing.T) {
	b := New()
	for _, labels := range [][]string{nil, {}} {
		for _, args := range [][]int{nil, {}} {
			r, e := b.Record(labels, args...)
			o, f := b.Open(1, labels, args...)
			i, g := b.Apply(api.ConInt, args...)
			if e != api.OK || f != api.OK || g != api.OK {
				t.Fatalf("%d, %d, %d", e, f, g)
			}
			for _, x := range []int{r, o, i} {
				if told, _ := b.Look(x); len(told.Labels) != 0 || len(told.Args) != 0 {
					t.Errorf("Look: %+v", told)
				}
			}
			s := api.Scheme{Vars: args, Type: r}
			if n, e := b.Put(s, args...); e != api.OK || n != r {
				t.Errorf("Put: %d, %d", n, e)
			}
			if n, l, e := b.Instance(s, 1); e != api.OK || n != r || len(l) != 0 {
				t.Errorf("Instance: %d, %v, %d", n, l, e)
			}
			if n, e := b.Replace(i, api.ConInt, s); e != api.OK || n != r {
				t.Errorf("Replace: %d, %d", n, e)
			}
			if !b.Covers(s, api.Scheme{Type: r}) {
				t.Error("Covers: false")
			}
			if e := b.Unify(o, r); e != api.OK {
				t.Errorf("Unify: %d", e)
			}
		}
	}
}

// Rule 4: lists that are handed in are neither changed nor kept.
func TestListsHandedIn(t *testing.T) {
	b := New()
	x, _ := b.Var(1, false, api.Any)
	y, _ := b.Var(1, false, api.Any)
	labels, args := []string{"a", "b"}, []int{x, y}
	r, _ := b.Record(labels, args...)
	o, _ := b.Open(1, labels, args...)
	pair, _ := b.Con("pair", 2, api.If)
	p, _ := b.Apply(pair, args...)
	s := api.Scheme{Vars: []int{x, y}, Type: r}
	put, _ := b.Put(s, args...)
	instance, _, _ := b.Instance(s, 1)
	replaced, _ := b.Replace(p, pair, s)
	covers := b.Covers(s, s)
	if !covers || !slices.Equal(labels, []string{"a", "b"}) || !slices.Equal(args, []int{x, y}) || !slices.Equal(s.Vars, []int{x, y}) {
		t.Errorf("%v, %v, %v have changed", labels, args, s.Vars)
	}
	labels[0], labels[1], args[0], args[1], s.Vars[0], s.Vars[1] = "z", "y", -1, -2, -3, -4
	for n, want := range map[int]string{r: "{a : 'a, b : 'b}", o: "{a : 'b, b : 'c, .. 'a}", p: "('a, 'b) pair", put: "{a : 'a, b : 'b}", instance: "{a : 'a, b : 'b}", replaced: "{a : 'a, b : 'b}"} {
		if got, e := b.Text(n); got != want || e != api.OK {
			t.Errorf("Text: %s, %d; want %s", got, e, want)
		}
	}
}

// Rule 4: lists that are told are new memory: of a book, of another answer, of one another.
func TestListsTold(t *testing.T) {
	d := newDesk(t)
	d.vars("x y")
	for _, n := range []int{d.ty("{a : x, b : y}"), d.open("o", 1, "{a : x, b : y}"), d.ty("(x, y) pair"), d.ty("x -> y")} {
		first, _ := d.b.Look(n)
		second, _ := d.b.Look(n)
		spoilType(first)
		if third, _ := d.b.Look(n); !sameType(second, third) {
			t.Errorf("Look: %+v; want %+v", third, second)
		}
		if slices.Contains(second.Args, -9) || slices.Contains(second.Labels, "spoilt") {
			t.Errorf("Look: two answers share memory: %+v", second)
		}
	}
	f := d.ty("x -> y")
	first := d.b.Free(f)
	s, _ := d.b.Generalize(f, 0)
	u, _ := d.b.Generalize(f, 0)
	_, l, _ := d.b.Instance(s, 1)
	first[0], s.Vars[0], l[0] = -9, -9, -9
	_ = append(l[:1], -9)
	if !slices.Equal(d.b.Free(f), u.Vars) || u.Vars[0] == -9 {
		t.Error("Free and Generalize share memory")
	}
	if d.text(f) != "'a -> 'b" {
		t.Error(d.text(f))
	}
}

// spoilType writes over all lists that are told of a type, and behind them.
func spoilType(told api.Type) {
	for i := range told.Labels {
		told.Labels[i] = "spoilt"
	}
	for i := range told.Args {
		told.Args[i] = -9
	}
	_ = append(told.Labels, "spoilt", "spoilt")
	_ = append(told.Args, -9, -9)
}

// Rule 4: fields of variables that are made one are new memory, too.
func TestListsMerged(t *testing.T) {
	d := newDesk(t)
	d.vars("x y")
	d.open("r", 1, "{a : x}")
	d.open("s", 1, "{b : y}")
	d.unify("r", "s")
	for _, name := range []string{"r", "s"} {
		spoilType(d.look(name))
	}
	d.says("r -> s", "{a : 'b, b : 'c, .. 'a} -> {a : 'b, b : 'c, .. 'a}")
}

// Rule 4: texts are neither kept nor shared.
func TestTextMemory(t *testing.T) {
	b := New()
	name, label, rigid := strings.Clone("constructor"), strings.Clone("label"), strings.Clone("'rigid")
	given := []*byte{unsafe.StringData(name), unsafe.StringData(label), unsafe.StringData(rigid)}
	c, _ := b.Con(name, 0, api.If)
	i, _ := b.Apply(c)
	r, _ := b.Record([]string{label}, i)
	o, _ := b.Open(1, []string{label}, i)
	v, _ := b.Rigid(1, rigid)
	var told []string
	for range 2 {
		s, _, _, _ := b.Named(c)
		told = append(told, s)
		for _, n := range []int{r, o, v} {
			x, _ := b.Look(n)
			told = append(append(told, x.Labels...), slices.DeleteFunc([]string{x.Rigid}, func(s string) bool { return s == "" })...)
		}
		for _, n := range []int{i, v} {
			s, _ := b.Text(n)
			told = append(told, s)
		}
	}
	if len(told) != 2*(1+3+2) {
		t.Fatal(told)
	}
	met := map[*byte]int{}
	for k, s := range told {
		at := unsafe.StringData(s)
		if other, ok := met[at]; ok {
			t.Errorf("answers %d and %d share %s", other, k, s)
		}
		met[at] = k
		if slices.Contains(given, at) {
			t.Errorf("answer %d shares %s with an argument", k, s)
		}
	}
	var kept []string
	for _, c := range b.cons {
		kept = append(kept, c.name)
	}
	for _, c := range b.cells {
		kept = append(append(kept, c.Labels...), c.Rigid)
	}
	for _, s := range kept {
		if s != "" && slices.Contains(given, unsafe.StringData(s)) {
			t.Errorf("%s is kept", s)
		}
	}
}

// Rule 5: two books know nothing of one another, and the same calls answer the same.
func TestTwoBooks(t *testing.T) {
	one, two := newDesk(t), newDesk(t)
	for _, d := range []*desk{one, two} {
		d.vars("x y z w")
		d.open("r", 1, "{a : x}")
		d.is("f", "(x, y) pair -> r")
	}
	before := photo(two.b)
	one.unify("x", "y")
	one.unify("r", "{a : int, b : z}")
	if !reflect.DeepEqual(photo(two.b), before) {
		t.Error("another book's types have changed")
	}
	two.unify("x", "y")
	two.unify("r", "{a : int, b : z}")
	for _, d := range []*desk{one, two} {
		n, e := d.b.Replace(d.types["f"], d.cons["pair"], d.scheme("w z", "w -> z -> w"))
		d.ok(e)
		d.types["g"] = n
	}
	if !reflect.DeepEqual(photo(one.b), photo(two.b)) {
		t.Error("the same calls have made other types")
	}
}

// Rule 5: however maps are gone through, the same types are made.
func TestSameNumbers(t *testing.T) {
	var first []shot
	for range 20 {
		d := newDesk(t)
		d.con("many", 8, api.If)
		d.vars("a b c e f g h i")
		arg := "(a list, b list, c list, e list, f list, g list, h list, i list) many"
		n, e := d.b.Replace(d.ty(strings.ReplaceAll(arg, "list", "t")), d.cons["t"], d.scheme("a", "a list ref"))
		d.ok(e)
		_, e = d.b.Replace(n, d.cons["many"], d.scheme("a b c e f g h i", arg))
		d.ok(e)
		if first == nil {
			first = photo(d.b)
		}
		if !reflect.DeepEqual(photo(d.b), first) {
			t.Fatal("other types were made")
		}
	}
}
