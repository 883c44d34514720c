package names

import (
	"math/rand"
	"reflect"
	"slices"
	"sort"
	"strconv"
	"testing"

	"kiln/api"
	"kiln/types"
)

// plain is an environment as lists, in which all is written out: what a Scope is held against.
type plain struct{ api.Env }

// plainMark is how long the lists are.
type plainMark struct{ vals, types, strs int }

func (p *plain) mark() plainMark { return plainMark{len(p.Vals), len(p.Types), len(p.Strs)} }

// cut takes all behind a mark out of the lists.
func (p *plain) cut(m plainMark) api.Env {
	out := api.Env{Vals: slices.Clone(p.Vals[m.vals:]), Types: slices.Clone(p.Types[m.types:]), Strs: slices.Clone(p.Strs[m.strs:])}
	p.Vals, p.Types, p.Strs = p.Vals[:m.vals:m.vals], p.Types[:m.types:m.types], p.Strs[:m.strs:m.strs]
	return out
}

func (p *plain) put(v api.Env) {
	p.Vals, p.Types, p.Strs = append(p.Vals, v.Vals...), append(p.Types, v.Types...), append(p.Strs, v.Strs...)
}

// plainSlots are the fields of a structure.
func plainSlots(v api.Env) (values, structures []string) {
	last := map[string]api.Naming{}
	for _, e := range v.Vals {
		last[e.Name] = e.Is
	}
	for name, is := range last {
		if is == api.SVar || is == api.SExn {
			values = append(values, name)
		}
	}
	met := map[string]int{}
	for _, s := range v.Strs {
		met[s.Name]++
	}
	for name := range met {
		structures = append(structures, name)
	}
	sort.Strings(values)
	sort.Strings(structures)
	return values, structures
}

// placed is what a structure says, with where it is.
func placed(s api.Str) api.Env {
	values, structures := plainSlots(s.Env)
	at := func(n int) api.Access {
		return api.Access{Id: s.At.Id, Path: append(slices.Clone(s.At.Path), n)}
	}
	v := api.Env{Vals: slices.Clone(s.Env.Vals), Types: s.Env.Types, Strs: slices.Clone(s.Env.Strs)}
	for i, e := range v.Vals {
		v.Vals[i].At = api.Access{}
		if n := slices.Index(values, e.Name); n >= 0 && (e.Is == api.SVar || e.Is == api.SExn) {
			v.Vals[i].At = at(n)
		}
	}
	for i, t := range v.Strs {
		v.Strs[i].At = at(len(values) + slices.Index(structures, t.Name))
	}
	return v
}

// plainStr is the structure of a long name.
func plainStr(v api.Env, path []string) (api.Str, bool) {
	for at, name := range path {
		k := -1
		for i, s := range v.Strs {
			if s.Name == name {
				k = i
			}
		}
		if k < 0 {
			return api.Str{}, false
		}
		if at == len(path)-1 {
			return v.Strs[k], true
		}
		v = placed(v.Strs[k])
	}
	return api.Str{}, false
}

func plainVal(v api.Env, path []string, name string) (api.Entry, bool) {
	if len(path) > 0 {
		s, ok := plainStr(v, path)
		if !ok {
			return api.Entry{}, false
		}
		v = placed(s)
	}
	for _, e := range slices.Backward(v.Vals) {
		if e.Name == name {
			return e, true
		}
	}
	return api.Entry{}, false
}

func plainTyp(v api.Env, path []string, name string) (api.Typ, bool) {
	if len(path) > 0 {
		s, ok := plainStr(v, path)
		if !ok {
			return api.Typ{}, false
		}
		v = s.Env
	}
	for _, t := range slices.Backward(v.Types) {
		if t.Name == name {
			return t, true
		}
	}
	return api.Typ{}, false
}

// tidy is an environment whose empty lists are nil, in new memory.
func tidy(v api.Env) api.Env {
	var out api.Env
	for _, e := range v.Vals {
		out.Vals = append(out.Vals, e)
	}
	for _, t := range v.Types {
		out.Types = append(out.Types, t)
	}
	for _, s := range v.Strs {
		s.Env = tidy(s.Env)
		out.Strs = append(out.Strs, s)
	}
	return out
}

// piece is what was cut from both.
type piece struct {
	env *Env
	v   api.Env
}

// player plays with a scope and with plain lists at once.
type player struct {
	*rand.Rand
	t      *testing.T
	scope  Scope
	plain  plain
	marks  []Mark
	lens   []plainMark
	pieces []piece
	number int
	thin   bool // the scope has of each name only what counts
}

func (p *player) name() string { return string(rune('a' + p.Intn(5))) }

func (p *player) entry() api.Entry {
	p.number++
	return api.Entry{Name: p.name(), Is: api.Naming(1 + p.Intn(4)), Scheme: api.Scheme{Vars: []int{p.number}, Type: p.number}, At: api.Access{Id: p.number, Path: []int{p.number}}, Tag: p.number}
}

func (p *player) typ() api.Typ {
	t := api.Typ{Name: p.name(), Scheme: api.Scheme{Type: p.number}}
	for p.Intn(3) == 0 {
		t.Cons = append(t.Cons, p.entry())
	}
	return t
}

func (p *player) path() []string {
	l := []string{p.name()}
	for p.Intn(2) == 0 {
		l = append(l, p.name())
	}
	return l
}

// step does something with both.
func (p *player) step() {
	switch p.Intn(12) {
	case 0, 1:
		e := p.entry()
		p.scope.AddVal(e)
		p.plain.Vals = append(p.plain.Vals, e)
	case 2:
		t := p.typ()
		p.scope.AddTyp(t)
		p.plain.Types = append(p.plain.Types, t)
	case 3, 4:
		p.open()
	case 5, 6:
		p.marks, p.lens = append(p.marks, p.scope.Mark()), append(p.lens, p.plain.mark())
	case 7, 8:
		p.cut()
	case 9, 10:
		if n := len(p.pieces); n > 0 {
			one := p.pieces[p.Intn(n)]
			at := api.Access{Id: p.number, Path: []int{p.number}}
			name := p.name()
			p.scope.AddStr(Str{Name: name, At: at, Env: one.env})
			p.plain.Strs = append(p.plain.Strs, api.Str{Name: name, At: at, Env: one.v})
		}
	case 11:
		if n := len(p.pieces); n > 0 {
			one := p.pieces[p.Intn(n)]
			p.scope.Put(one.env)
			p.plain.put(one.v)
		}
	}
}

// open opens the structure of a long name in both, once or twice.
func (p *player) open() {
	path := p.path()
	s, _, ok := p.scope.FindStr(path)
	want, okay := plainStr(p.plain.Env, path)
	if ok != okay {
		p.t.Fatalf("%v: found %v; want %v", path, ok, okay)
	}
	for range 1 + p.Intn(2) {
		if ok {
			p.scope.Open(s)
			p.plain.put(placed(want))
		}
	}
}

// cut goes back to the last mark in both.
func (p *player) cut() {
	n := len(p.marks) - 1
	if n < 0 {
		return
	}
	since := p.scope.Since(p.marks[n])
	out := piece{p.scope.Cut(p.marks[n]), p.plain.cut(p.lens[n])}
	p.marks, p.lens = p.marks[:n], p.lens[:n]
	if got := Told(out.env, since); !reflect.DeepEqual(got[0], tidy(out.v)) || !reflect.DeepEqual(got[1], got[0]) {
		p.t.Fatalf("cut %v; want %v", got, tidy(out.v))
	}
	p.pieces = append(p.pieces, out)
}

// ask asks both for names.
func (p *player) ask() {
	for _, path := range [][]string{nil, {p.name()}, p.path()} {
		name := p.name()
		e, _, ok := p.scope.FindVal(path, name)
		if want, okay := plainVal(p.plain.Env, path, name); ok != okay || ok && !reflect.DeepEqual(e, want) {
			p.t.Fatalf("%v %s: %v, %v; want %v, %v", path, name, e, ok, want, okay)
		}
		t, _, ok := p.scope.FindTyp(path, name)
		if want, okay := plainTyp(p.plain.Env, path, name); ok != okay || ok && !reflect.DeepEqual(t, want) {
			p.t.Fatalf("the type %v %s: %v, %v; want %v, %v", path, name, t, ok, want, okay)
		}
		if len(path) == 0 {
			continue
		}
		s, _, ok := p.scope.FindStr(path)
		want, okay := plainStr(p.plain.Env, path)
		if ok != okay || ok && (s.Name != want.Name || !reflect.DeepEqual(s.At, want.At) || !p.thin && !reflect.DeepEqual(Told(s.Env)[0], tidy(want.Env))) {
			p.t.Fatalf("the structure %v: %v at %v, %v; want %v, %v", path, Told(s.Env), s.At, ok, want, okay)
		}
		if ok {
			values, structures := s.Env.Slots()
			x, y := plainSlots(want.Env)
			if !slices.Equal(values, x) || !slices.Equal(structures, y) {
				p.t.Fatalf("the fields of %v: %v, %v; want %v, %v", path, values, structures, x, y)
			}
		}
	}
}

// A scope says what lists say in which all is written out, whatever was done.
func TestScopes(t *testing.T) {
	for seed := range 300 {
		p := &player{Rand: rand.New(rand.NewSource(int64(seed))), t: t}
		for range 60 {
			p.step()
			p.ask()
			if len(p.plain.Vals)+len(p.plain.Strs) > 400 {
				break
			}
		}
		want := tidy(p.plain.Env)
		if got := Told(&p.scope.Env)[0]; !reflect.DeepEqual(got, want) {
			t.Fatalf("%d: told %v; want %v", seed, got, want)
		}
		if got := Told(Of(p.plain.Env))[0]; !reflect.DeepEqual(got, want) {
			t.Fatalf("%d: read %v; want %v", seed, got, want)
		}
		if got := tidy(p.scope.Lent()); !reflect.DeepEqual(got, want) {
			t.Fatalf("%d: lent %v; want %v", seed, got, want)
		}
		p.scope = ScopeOf(p.scope.LentThin()) // names stand for the same
		p.marks, p.plain, p.thin = nil, plain{want}, true
		for range 20 {
			p.ask()
		}
	}
}

// Stamps tell what was put there, or opened, ahead of a mark.
func TestStamps(t *testing.T) {
	inner := Scope{}
	inner.AddVal(api.Entry{Name: "x", Is: api.SVar})
	inner.AddTyp(api.Typ{Name: "t"})
	s := Scope{}
	s.AddStr(Str{Name: "S", Env: inner.Since(Mark{})})
	s.AddVal(api.Entry{Name: "y"})
	m := s.Mark()
	s.AddVal(api.Entry{Name: "z"})
	str, where, ok := s.Str("S")
	if !ok || where.Other || where.Stamp >= m.Stamp {
		t.Errorf("S: %v, %v", where, ok)
	}
	for name, want := range map[string]bool{"y": true, "z": false} {
		if _, where, ok := s.Val(name); !ok || where.Other || where.Stamp < m.Stamp != want {
			t.Errorf("%s: %v, %v", name, where, ok)
		}
	}
	if _, where, ok := s.FindVal([]string{"S"}, "x"); !ok || !where.Other || where.Stamp >= m.Stamp {
		t.Errorf("S.x: %v, %v", where, ok)
	}
	before := s.TypesStamp()
	s.AddVal(api.Entry{Name: "w"})
	if s.TypesStamp() != before {
		t.Error("types hang on values")
	}
	for name, do := range map[string]func(){"a type": func() { s.AddTyp(api.Typ{Name: "u"}) }, "a structure": func() { s.AddStr(str) }, "what is opened": func() { s.Open(str) }} {
		at := s.Mark()
		do()
		first := s.TypesStamp()
		s.Drop(at)
		if s.TypesStamp() != before {
			t.Errorf("%s is gone, and types hang on it", name)
		}
		do()
		if again := s.TypesStamp(); first == before || again == before || again == first {
			t.Errorf("%s: the stamps %d, %d, %d", name, before, first, again)
		}
		s.Drop(at)
	}
	s.Open(str)
	if _, where, ok := s.Val("x"); !ok || !where.Other || where.Stamp < m.Stamp {
		t.Errorf("x: %v, %v", where, ok)
	}
	if _, where, ok := s.Typ("t"); !ok || !where.Other || where.Stamp < m.Stamp {
		t.Errorf("t: %v, %v", where, ok)
	}
	if s.Rows() != 5 || s.ValRows() != 3 || s.ValRow(2).Name != "w" {
		t.Errorf("%d rows, %d of values", s.Rows(), s.ValRows())
	}
}

// doubled is an environment that has the same one twice, which has the same one twice, and so on.
func doubled(n int) *Env {
	s := Scope{}
	s.AddVal(api.Entry{Name: "x", Is: api.SVar})
	v := s.Since(Mark{})
	for range n {
		s := Scope{}
		s.AddStr(Str{Name: "X", Env: v})
		s.AddStr(Str{Name: "Y", Env: v})
		v = s.Since(Mark{})
	}
	return v
}

// nested is how deep the first structures of an environment are told.
func nested(v api.Env) int {
	if len(v.Strs) == 0 {
		return 0
	}
	return 1 + nested(v.Strs[0].Env)
}

// What is more than can be told is told as far as it can be; and what several structures have alike is there once.
func TestManyNames(t *testing.T) {
	if got := Told(doubled(10))[0]; nested(got) != 10 {
		t.Errorf("told %d deep", nested(got))
	}
	if got := Told(doubled(60))[0]; len(got.Strs) != 2 || nested(got) != 1 {
		t.Errorf("too many: told %d deep", nested(got))
	}
	s := Scope{}
	for i := range 60 {
		s.AddStr(Str{Name: "S" + strconv.Itoa(i), Env: doubled(i)})
	}
	got := Told(&s.Env)[0]
	if len(got.Strs) != 60 || nested(got.Strs[10].Env) != 10 || nested(got.Strs[59].Env) != 0 {
		t.Error("of several structures not those that can be told")
	}
	if l := Told(doubled(3), doubled(60), doubled(4)); nested(l[0]) != 3 || nested(l[1]) != 1 || nested(l[2]) != 4 {
		t.Error("of several environments not those that can be told")
	}
	lent := doubled(60).Lent()
	v := Of(lent)
	depth := 0
	for inner, _, ok := v.Str("Y"); ok; inner, _, ok = inner.Env.Str("X") {
		depth++
	}
	if depth != 60 {
		t.Errorf("lent and read %d deep", depth)
	}
	n := 0
	for range v.Envs() {
		n++
	}
	if n != 61 {
		t.Errorf("%d environments", n)
	}
}

// What is opened more often than can be told is still found.
func TestWide(t *testing.T) {
	inner := Scope{}
	for i := range 1000 {
		inner.AddVal(api.Entry{Name: "x" + strconv.Itoa(i), Is: api.SVar})
	}
	s, one := Scope{}, Str{Name: "S", At: api.Access{Id: 7}, Env: inner.Since(Mark{})}
	for range 1 << 16 {
		s.Open(one)
	}
	s.AddVal(api.Entry{Name: "y"})
	if e, _, ok := s.Val("x999"); !ok || e.At.Id != 7 {
		t.Errorf("x999: %v, %v", e, ok)
	}
	if _, _, ok := s.Val("z"); ok {
		t.Error("z is there")
	}
	if got := Told(&s.Env)[0]; len(got.Vals) != 0 {
		t.Errorf("told %d names", len(got.Vals))
	}
	if got := s.Lent(); len(got.Vals) != 1001 {
		t.Errorf("lent %d names", len(got.Vals))
	}
	if values, _ := s.Since(Mark{}).Slots(); len(values) != 1000 {
		t.Errorf("%d fields", len(values))
	}
}

// Structures that are opened one out of the other, and nothing else, say what the first one says.
func TestOpenedInTurn(t *testing.T) {
	first := Scope{}
	first.AddVal(api.Entry{Name: "b", Is: api.SExn})
	first.AddVal(api.Entry{Name: "a", Is: api.SVar})
	v := first.Since(Mark{})
	for i := range 1 << 14 {
		s := Scope{}
		s.Open(Str{Name: "S", At: api.Access{Id: i}, Env: v})
		v = s.Since(Mark{})
	}
	e, _, ok := v.Val("b")
	if !ok || !reflect.DeepEqual(e.At, api.Access{Id: 1<<14 - 1, Path: []int{1}}) {
		t.Errorf("b: %v, %v", e, ok)
	}
	if got := Told(v)[0]; len(got.Vals) != 2 || got.Vals[0].Name != "b" {
		t.Errorf("told %v", got)
	}
}

// Of several structures that were opened, and nothing else, the fields are those of all.
func TestOpenedAlone(t *testing.T) {
	one, other, s := Scope{}, Scope{}, Scope{}
	one.AddVal(api.Entry{Name: "a", Is: api.SVar})
	one.AddVal(api.Entry{Name: "b", Is: api.SVar})
	other.AddVal(api.Entry{Name: "b", Is: api.SCon})
	other.AddVal(api.Entry{Name: "c", Is: api.SVar})
	other.AddStr(Str{Name: "d", Env: &Env{}})
	for _, v := range []*Env{one.Since(Mark{}), one.Since(Mark{}), other.Since(Mark{})} {
		s.Open(Str{Name: "S", Env: v})
	}
	values, structures := s.Since(Mark{}).Slots()
	if !slices.Equal(values, []string{"a", "c"}) || !slices.Equal(structures, []string{"d"}) {
		t.Errorf("the fields %v, %v", values, structures)
	}
	first := one.Since(Mark{})
	s = Scope{}
	for i := range 3 {
		s.Open(Str{Name: "S", At: api.Access{Id: i}, Env: first})
	}
	if values, structures := s.Since(Mark{}).Slots(); !slices.Equal(values, []string{"a", "b"}) || len(structures) != 0 {
		t.Errorf("the fields %v, %v", values, structures)
	}
	s.AddVal(api.Entry{Name: "a", Is: api.SCon})
	if values, _ := s.Since(Mark{}).Slots(); !slices.Equal(values, []string{"b"}) {
		t.Errorf("the fields %v", values)
	}
}

// Structures that are opened in turn, near and far from each other.
func TestOpenedOften(t *testing.T) {
	var strs []Str
	for i := range 3 * near {
		one := Scope{}
		one.AddVal(api.Entry{Name: "x" + strconv.Itoa(i), Is: api.SVar})
		one.AddVal(api.Entry{Name: "y", Is: api.SVar})
		strs = append(strs, Str{Name: "S", At: api.Access{Id: i}, Env: one.Since(Mark{})})
	}
	s := Scope{}
	s.AddVal(api.Entry{Name: "z"})
	for _, list := range [][]Str{strs, strs[:10], strs[5:near], strs} {
		m := s.Mark()
		for _, one := range list {
			s.Open(one)
		}
		last := list[len(list)-1]
		if e, _, ok := s.Val("y"); !ok || e.At.Id != last.At.Id {
			t.Errorf("y is at %v, %v; want %d", e.At, ok, last.At.Id)
		}
		for _, one := range []Str{list[0], list[len(list)/2], last} {
			if e, _, ok := s.Val("x" + strconv.Itoa(one.At.Id)); !ok || e.At.Id != one.At.Id {
				t.Errorf("x%d is at %v, %v", one.At.Id, e.At, ok)
			}
		}
		if _, where, ok := s.Val("z"); !ok || where.Other {
			t.Errorf("z: %v, %v", where, ok)
		}
		if len(list) == 10 {
			s.Drop(m)
		}
	}
}

// An environment that is made by hand may have itself in it, or be nested deeper than anybody asks.
func TestEndless(t *testing.T) {
	one := make([]api.Str, 1)
	one[0] = api.Str{Name: "S", Env: api.Env{Strs: one}}
	two := make([]api.Str, 2)
	for i := range two {
		two[i] = api.Str{Name: "S", Env: api.Env{Strs: two, Vals: []api.Entry{{Name: "x"}}}}
	}
	for _, l := range [][]api.Str{one, two} {
		v := Of(api.Env{Strs: l})
		if s, _, ok := v.Str("S"); !ok || s.Env == nil {
			t.Error("S is not there")
		}
		if got := Told(v)[0]; nested(got) < 1 || nested(got) > 3 {
			t.Errorf("%d deep", nested(got))
		}
		s := ScopeOf(api.Env{Strs: l})
		s.Lent()
		s.LentThin()
	}
	deep := api.Env{Vals: []api.Entry{{Name: "x"}}}
	for range 1 << 16 {
		deep = api.Env{Strs: []api.Str{{Name: "S", Env: deep}}}
	}
	if got := nested(Told(Of(deep))[0]); got != 1<<16 {
		t.Errorf("%d deep; want %d", got, 1<<16)
	}
	for range 1 << 17 {
		deep = api.Env{Strs: []api.Str{{Name: "S", Env: deep}}}
	}
	if got := nested(Told(Of(deep))[0]); got < 1<<16 || got > 1<<18 {
		t.Errorf("too deep: %d", got)
	}
}

// A Mapper makes each environment once, with what was opened in it; what stays is the same one.
func TestMapper(t *testing.T) {
	v := doubled(50)
	s := Scope{}
	s.AddVal(api.Entry{Name: "y", Is: api.SVar})
	s.Open(Str{Name: "A", Env: v})
	s.AddTyp(api.Typ{Name: "t"})
	s.AddStr(Str{Name: "A", Env: v})
	whole := s.Since(Mark{})
	made := 0
	m := Mapper{
		Entry: func(e api.Entry) api.Entry { e.Tag = 5; return e },
		Typ:   func(t api.Typ) api.Typ { t.Scheme.Type = 6; return t },
		Made:  func(*Env) { made++ },
	}
	got := m.Env(whole)
	if made != 52 {
		t.Errorf("%d environments are made", made)
	}
	if e, _, ok := got.FindVal(slices.Repeat([]string{"X", "Y"}, 25), "x"); !ok || e.Tag != 5 {
		t.Errorf("x: %v, %v", e, ok)
	}
	if typ, _, ok := got.Typ("t"); !ok || typ.Scheme.Type != 6 {
		t.Errorf("t: %v, %v", typ, ok)
	}
	if e, _, _ := whole.Val("y"); e.Tag != 0 {
		t.Errorf("what was there is turned: %v", e)
	}
	m = Mapper{Entry: m.Entry, Typ: m.Typ, Made: m.Made, Stays: func(e *Env) bool { return e == v }}
	got = m.Env(whole)
	if a, _, _ := got.Str("A"); a.Env != v {
		t.Error("what stays is another one")
	}
	if e, _, _ := got.Val("y"); e.Tag != 5 {
		t.Errorf("y: %v", e)
	}
}

// A table: the last one of a name counts.
func TestTable(t *testing.T) {
	var l Table[int]
	if _, ok := l.Find("a"); ok || len(l.Items()) != 0 {
		t.Error("an empty table has something")
	}
	for i, name := range []string{"a", "b", "a", ""} {
		l.Add(name, i)
	}
	for name, want := range map[string]int{"a": 2, "b": 1, "": 3} {
		if got, ok := l.Find(name); !ok || got != want {
			t.Errorf("%q: %d, %v; want %d", name, got, ok, want)
		}
	}
	if got := l.Items(); !slices.Equal(got, []int{0, 1, 2, 3}) {
		t.Errorf("%v", got)
	}
}

// Loose variables are those that a scheme has not, as these are now.
func TestLoose(t *testing.T) {
	b := types.New()
	one, _ := b.Var(1, false, api.Any)
	other, _ := b.Var(1, false, api.Any)
	third, _ := b.Var(0, false, api.Any)
	f, _ := b.Arrow(one, third)
	g, _ := b.Arrow(f, other)
	for name, c := range map[string]struct {
		s    api.Scheme
		want []int
	}{
		"all":     {api.Scheme{Type: g}, []int{one, third, other}},
		"some":    {api.Scheme{Vars: []int{other, one}, Type: g}, []int{third}},
		"none":    {api.Scheme{Vars: []int{other, one, third}, Type: g}, nil},
		"no type": {api.Scheme{Vars: []int{77}, Type: -1}, nil},
	} {
		if got := Loose(b, c.s); !slices.Equal(got, c.want) {
			t.Errorf("%s: %v; want %v", name, got, c.want)
		}
	}
	if e := b.Unify(one, other); e != api.OK {
		t.Fatal(e)
	}
	for _, v := range []int{one, other} {
		if got := Loose(b, api.Scheme{Vars: []int{v}, Type: g}); !slices.Equal(got, []int{third}) {
			t.Errorf("with one that became another: %v", got)
		}
	}
}
