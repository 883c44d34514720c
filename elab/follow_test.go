package elab

import (
	"math/rand"
	"reflect"
	"slices"
	"testing"

	"kiln/api"
)

// programs are some that are taken, and some that are not.
func programs() []string {
	return []string{
		"val x = 1 fun f x = x val y = (f 1, f true) datatype 'a t = A | B of 'a * 'a t exception E of int",
		"val r = ref nil val s = r := [1] val t = r := [true]",
		"val f = fn {a, ...} : {a : int, b : 'a} => a val g = fn {a, ...} => a",
		"datatype t = A of u and u = B of t -> t local val x = A in val y = x end val z = y = y",
		"val f = fn x => let datatype d = D in (x; D) end",
		"open Prim val n = size \"a\" + ord #\"b\" val m = n + 1.0",
		"val (a, b, a) = 1", "val x = 1 handle Div => 2 | E => 3 | F.g => 4", "val rec f = fn 0 => 1 | n => n * f (n - 1)",
	}
}

// P8.8: places play no part but in faults.
func TestPlaces(t *testing.T) {
	for _, text := range programs() {
		l, root := bareTree(t, text)
		one, other := New(), New()
		one.Begin(l, root)
		other.Begin(byNumber(l), root)
		for _, i := range l[root].Kids {
			line, column, e := one.Dec(i)
			at, _, f := other.Dec(i)
			if e != f || e != api.OK && (l[at-1].Line != line || l[at-1].Column != column) {
				t.Errorf("%q: %v at %d, %d; with other places %v at %d", text, e, line, column, f, at-1)
			}
		}
		if !reflect.DeepEqual(one.Env(), other.Env()) || !reflect.DeepEqual(one.Notes(), other.Notes()) || one.Fresh() != other.Fresh() {
			t.Errorf("%q: with other places something else", text)
		}
	}
}

// P8.8: two elaborators with the same calls answer the same, and know nothing of one another.
func TestTwoElaborators(t *testing.T) {
	one, other := newDesk(t), newDesk(t)
	for _, text := range programs() {
		New().Fresh()
		for _, d := range []*desk{one, other} {
			d.play(text)
			d.play("val zzz = Prim.size")
		}
		if !reflect.DeepEqual(one.e.Env(), other.e.Env()) || !reflect.DeepEqual(one.e.Notes(), other.e.Notes()) {
			t.Errorf("%q: something else", text)
		}
	}
	before := one.e.Env()
	other.run("val w = 1 datatype q = Q")
	if !reflect.DeepEqual(one.e.Env(), before) {
		t.Error("one elaborator's declarations are another one's")
	}
}

// The examples of the chapter.
func TestExamples(t *testing.T) {
	d := played(t, "val f = fn x => x val g = f f val h = fn x => x + x val k = fn x => x + 1.0")
	d.is("f", "!'a -> 'a")
	d.is("g", "'a -> 'a")
	d.is("h", "int -> int")
	d.is("k", "real -> real")
	d.run("val {a, ...} = {a = 1, b = 2}")
	d.is("a", "int")
	d.run("datatype 'a t = A | B of 'a * 'a t")
	d.is("B", "!'a * 'a t -> 'a t")
	askFaults(t, []faults{
		{"val §p = fn {a, ...} => a", api.NBind, api.ErrFields},
		{"val x = §1 2", api.EApp, api.ErrUnify},
		{"datatype u = C of u -> u val e = C §= C", api.EApp, api.ErrEquality},
		{"val r = §let datatype d = D in D end", api.ELet, api.ErrEscape},
		{"val §A x = 1", api.PName, api.ErrUnbound},
		{"val §nil x = 1", api.PName, api.ErrPat},
		{"val x = 1 §+ true", api.EApp, api.ErrUnify},
	})
}

// ground is a type without variables that admits equality.
func (d *desk) ground(r *rand.Rand, depth int) int {
	b := d.e.Book()
	t, _ := b.Apply([]int{api.ConInt, api.ConString, api.ConChar}[r.Intn(3)])
	if depth > 0 && r.Intn(2) == 0 {
		t, _ = b.Put(d.typ("list").Scheme, d.ground(r, depth-1))
	} else if depth > 0 && r.Intn(2) == 0 {
		t, _ = b.Record([]string{"1", "2"}, d.ground(r, depth-1), d.ground(r, depth-1))
	}
	return t
}

// instances is an environment whose variables stand for instances of what they stood for.
func (d *desk) instances(v api.Env, r *rand.Rand) api.Env {
	for i, e := range v.Vals {
		if e.Is == api.SVar {
			var args []int
			for range e.Scheme.Vars {
				args = append(args, d.ground(r, 2))
			}
			t, errno := d.e.Book().Put(e.Scheme, args...)
			if errno != api.OK {
				d.t.Fatalf("%s: %v", e.Name, errno)
			}
			v.Vals[i].Scheme = api.Scheme{Type: t}
		}
	}
	for i, s := range v.Strs {
		v.Strs[i].Env = d.instances(s.Env, r)
	}
	return v
}

// P8.5: with names that stand for instances a phrase has an instance of what it has.
func TestPrincipal(t *testing.T) {
	held, more := 0, 0
	for seed := range 700 {
		r := rand.New(rand.NewSource(int64(seed)))
		d := &desk{t: t, e: newPair(t).e}
		d.run("val f = fn x => x val g = fn x => (x, x) val h = fn x => fn y => x val k = fn (x, y) => y val c = fn f => fn g => fn x => f (g x) val e = nil val i = fn (x, y) => x = y")
		env := d.e.Env()
		s := &scribe{Rand: r}
		text := s.one("h (f, g) k", "c g f", "c f", "(f, k, e)", "i (f 1, k (2, 3))", "g (c h)", "fn z => c g (h z)", "c (c f) g", "[f, h 1]", "h e (g 2)", "fn (a, b) => i (f a, b)")
		if r.Intn(2) == 0 {
			plan := s.plan(2)
			s.vals = []known{{"f", plan}, {"h 1", plan}, {"f f", plan}, {"e", plan}, {"(c f f)", plan}, {"k (1, g)", plan}}
			text = s.exp(plan, 4)
		}
		if _, _, ok := tryTree("val it = " + text); !ok {
			continue
		}
		if _, errno := d.play("val it = " + text); errno != api.OK {
			continue
		}
		if slices.ContainsFunc(d.e.Notes(), func(n api.Note) bool { return n.Is == api.SPrim && n.Con >= 0 }) {
			continue // what is overloaded is settled, where nothing is said of it
		}
		b := d.e.Book()
		whole := d.val("it").Scheme.Type
		general := api.Scheme{Vars: b.Free(whole), Type: whole}
		for range 4 {
			d.e.Set(d.instances(cloneEnv(env), r))
			if _, errno := d.play("val it = " + text); errno != api.OK {
				continue
			}
			held++
			narrow := d.val("it").Scheme.Type
			if len(b.Free(narrow)) < len(general.Vars) {
				more++
			}
			if !b.Covers(general, api.Scheme{Vars: b.Free(narrow), Type: narrow}) {
				t.Errorf("%q: %s; with instances %s", text, d.text(whole), d.text(narrow))
			}
		}
	}
	t.Logf("held %d, %d of them with fewer variables", held, more)
	if held < 300 || more < 50 {
		t.Errorf("held %d, %d of them with fewer variables: too few", held, more)
	}
}
