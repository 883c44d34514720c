package types

import (
	"math/rand/v2"
	"slices"
	"testing"

	"kiln/api"
)

// twin is a type in two books and in the model; nil in the model: no type.
type twin struct {
	n [2]int
	m *thing
}

// twinScheme is a scheme likewise.
type twinScheme struct {
	s [2]api.Scheme
	p plan
}

// script makes the same calls of two books and of the model, by chance; what is unified in one book is in the other one the other way round.
type script struct {
	t       *testing.T
	r       *rand.Rand
	books   [2]*Book
	w       *world
	pool    []twin
	schemes []twinScheme
	errnos  map[api.Errno]int // how often each was told by Unify
	covers  [2]int
	steps   []string
	wide    int // how seldom wide types are made
}

func newScript(t *testing.T, seed uint64) *script {
	s := &script{t: t, r: rand.New(rand.NewPCG(seed, 7)), books: [2]*Book{New(), New()}, w: &world{}, errnos: map[api.Errno]int{}, wide: 30}
	if seed%3 == 0 {
		s.wide = 5
	}
	for i := range 7 {
		name, arity, equal, _ := s.books[0].Named(i)
		s.w.cons = append(s.w.cons, constructor{name, arity, equal})
	}
	for _, c := range []constructor{{"list", 1, api.If}, {"pair", 2, api.If}, {"fun", 1, api.Never}, {"no", 0, api.Never}} {
		s.w.cons = append(s.w.cons, c)
		for _, b := range s.books {
			if _, e := b.Con(c.name, c.arity, c.equal); e != api.OK {
				t.Fatal(e)
			}
		}
	}
	return s
}

func (s *script) chance(n int) bool { return s.r.IntN(n) == 0 }

// some is a type of the pool; seldom none.
func (s *script) some() twin {
	if len(s.pool) == 0 || s.chance(200) {
		return twin{n: [2]int{-1, 1 << 30}}
	}
	if s.chance(3) { // one of the last ones
		return s.pool[max(0, len(s.pool)-1-s.r.IntN(4))]
	}
	return s.pool[s.r.IntN(len(s.pool))]
}

// variable is a type of the pool that is a variable now, if there is one.
func (s *script) variable() twin {
	for range 20 {
		if x := s.some(); x.m != nil && x.m.now().kind == api.YVar {
			return x
		}
	}
	return s.some()
}

// both makes a call of both books; what both answer must be the same error.
func (s *script) both(call func(b *Book, i int) (int, api.Errno)) ([2]int, api.Errno) {
	var n [2]int
	var e [2]api.Errno
	for i, b := range s.books {
		n[i], e[i] = call(b, i)
		if e[i] != api.OK && n[i] != 0 {
			s.t.Fatalf("%v: %d with the error %d", s.steps, n[i], e[i])
		}
	}
	if e[0] != e[1] {
		s.t.Fatalf("%v: the errors %d and %d", s.steps, e[0], e[1])
	}
	return n, e[0]
}

// made puts a new type into the pool, if the error is the one that is wanted.
func (s *script) made(want api.Errno, m *thing, call func(b *Book, i int) (int, api.Errno)) {
	n, e := s.both(call)
	if e != want {
		s.t.Fatalf("%v: error %d; want %d", s.steps, e, want)
	}
	if e == api.OK {
		s.pool = append(s.pool, twin{n, m})
	}
}

// check is OK, or the first error of a list of which the condition holds.
func check(conditions ...any) api.Errno {
	for i := 0; i < len(conditions); i += 2 {
		if conditions[i].(func() bool)() {
			return conditions[i+1].(api.Errno)
		}
	}
	return api.OK
}

func (s *script) makeVar() {
	level, equal, class := s.r.IntN(4), s.chance(3), api.Class(s.r.IntN(6))
	if class > api.Text {
		class = api.Any
	}
	s.made(api.OK, s.w.add(thing{level: level, equal: equal, class: class}), func(b *Book, i int) (int, api.Errno) { return b.Var(level, equal, class) })
}

func (s *script) makeRigid() {
	level, name := s.r.IntN(4), []string{"'a", "'b", "''a", "''b", ""}[s.r.IntN(5)]
	s.made(api.OK, s.w.add(thing{level: level, rigid: true, name: name}), func(b *Book, i int) (int, api.Errno) { return b.Rigid(level, name) })
}

// several are types of the pool: of each book and of the model; false: one is none.
func (s *script) several(n int) ([2][]int, []*thing, bool) {
	var l [2][]int
	var m []*thing
	ok := true
	for range n {
		x := s.some()
		for i := range l {
			l[i] = append(l[i], x.n[i])
		}
		m = append(m, x.m)
		ok = ok && x.m != nil
	}
	return l, m, ok
}

func (s *script) makeApply() {
	con := s.r.IntN(len(s.w.cons))
	arity := s.w.cons[con].arity
	if s.chance(50) {
		arity++
	}
	l, m, ok := s.several(arity)
	t := &thing{kind: api.YCon, con: con, args: m}
	want := check(
		func() bool { return !ok }, api.ErrType,
		func() bool { return arity != s.w.cons[con].arity }, api.ErrArity,
		func() bool { return tooLarge(t) }, api.ErrLong)
	s.made(want, t, func(b *Book, i int) (int, api.Errno) { return b.Apply(con, l[i]...) })
}

func (s *script) makeArrow() {
	l, m, ok := s.several(2)
	t := &thing{kind: api.YArrow, args: m}
	want := check(func() bool { return !ok }, api.ErrType, func() bool { return tooLarge(t) }, api.ErrLong)
	s.made(want, t, func(b *Book, i int) (int, api.Errno) { return b.Arrow(l[i][0], l[i][1]) })
}

// labels are some, in order.
func (s *script) labels() []string {
	if s.chance(3) {
		return numbers(s.r.IntN(4))
	}
	var l []string
	for _, x := range []string{"1", "2", "10", "0", "a", "b"} {
		if s.chance(3) {
			l = append(l, x)
		}
	}
	return l
}

func (s *script) makeRecord(open bool) {
	labels := s.labels()
	l, m, ok := s.several(len(labels))
	level := s.r.IntN(4)
	t := &thing{kind: api.YRec, fields: map[string]*thing{}}
	for i, x := range labels {
		t.fields[x] = m[i]
	}
	want := check(func() bool { return !ok }, api.ErrType, func() bool { return tooLarge(t) }, api.ErrLong)
	if !open {
		s.made(want, t, func(b *Book, i int) (int, api.Errno) { return b.Record(labels, l[i]...) })
		return
	}
	if want == api.OK {
		t = s.w.add(thing{open: true, level: level, fields: t.fields})
	}
	s.made(want, t, func(b *Book, i int) (int, api.Errno) { return b.Open(level, labels, l[i]...) })
}

// makeWide makes a tuple, or an open variable, of one type many times, so that sizes come near to what they may be.
func (s *script) makeWide() {
	x := s.some()
	n := 10 + s.r.IntN(100)
	t := &thing{kind: api.YRec, fields: map[string]*thing{}}
	for _, l := range numbers(n) {
		t.fields[l] = x.m
	}
	want := check(func() bool { return x.m == nil }, api.ErrType, func() bool { return tooLarge(t) }, api.ErrLong)
	if want == api.OK && s.chance(3) {
		t = s.w.add(thing{open: true, level: 1, fields: t.fields})
		s.made(want, t, func(b *Book, i int) (int, api.Errno) {
			return b.Open(1, numbers(n), slices.Repeat([]int{x.n[i]}, n)...)
		})
		return
	}
	s.made(want, t, func(b *Book, i int) (int, api.Errno) {
		return b.Record(numbers(n), slices.Repeat([]int{x.n[i]}, n)...)
	})
}

func (s *script) unify() {
	x, y := s.some(), s.some()
	if s.chance(2) {
		x = s.variable()
	}
	want := api.ErrType
	if x.m != nil && y.m != nil {
		want = s.w.makeSame(x.m, y.m)
	}
	s.errnos[want]++
	if e := s.books[0].Unify(x.n[0], y.n[0]); e != want {
		s.t.Fatalf("%v: Unify: %d; want %d", s.steps, e, want)
	}
	if e := s.books[1].Unify(y.n[1], x.n[1]); e != want {
		s.t.Fatalf("%v: Unify the other way round: %d; want %d", s.steps, e, want)
	}
}

func (s *script) settle() {
	x := s.some()
	want := check(func() bool { return x.m == nil }, api.ErrType, func() bool { return tooLarge(x.m) }, api.ErrLong)
	if want == api.OK {
		for _, v := range x.m.free() {
			if v.class != api.Any {
				v.become = &thing{kind: api.YCon, con: api.ConInt}
			}
		}
	}
	if _, e := s.both(func(b *Book, i int) (int, api.Errno) { return 0, b.Settle(x.n[i]) }); e != want {
		s.t.Fatalf("%v: Settle: %d; want %d", s.steps, e, want)
	}
}

func (s *script) generalize() {
	x, level := s.some(), s.r.IntN(4)
	var p plan
	want := check(func() bool { return x.m == nil }, api.ErrType, func() bool { return tooLarge(x.m) }, api.ErrLong)
	if want == api.OK {
		p.is = x.m
		for _, v := range x.m.free() {
			if v.level <= level {
				continue
			}
			if want == api.OK && v.class != api.Any {
				want = api.ErrClass
			}
			if want == api.OK && v.open {
				want = api.ErrFields
			}
			p.vars = append(p.vars, v)
		}
	}
	var l [2]api.Scheme
	_, e := s.both(func(b *Book, i int) (n int, e api.Errno) { l[i], e = b.Generalize(x.n[i], level); return 0, e })
	if e != want {
		s.t.Fatalf("%v: Generalize: %d; want %d", s.steps, e, want)
	}
	if e == api.OK {
		if len(l[0].Vars) != len(p.vars) || len(l[1].Vars) != len(p.vars) {
			s.t.Fatalf("%v: Generalize: %v; want %d", s.steps, l, len(p.vars))
		}
		s.schemes = append(s.schemes, twinScheme{l, p})
		for k, v := range p.vars {
			s.pool = append(s.pool, twin{[2]int{l[0].Vars[k], l[1].Vars[k]}, v})
		}
	}
}

// write makes a scheme of a type and some variables by hand.
func (s *script) write() {
	x := s.some()
	t := twinScheme{p: plan{is: x.m}}
	t.s[0].Type, t.s[1].Type = x.n[0], x.n[1]
	for range s.r.IntN(3) {
		v := s.variable()
		t.p.vars = append(t.p.vars, v.m)
		for i := range t.s {
			t.s[i].Vars = append(t.s[i].Vars, v.n[i])
		}
	}
	s.schemes = append(s.schemes, t)
}

func (s *script) scheme() twinScheme {
	if len(s.schemes) == 0 || s.chance(4) {
		s.write()
	}
	if s.chance(3) {
		return s.schemes[len(s.schemes)-1]
	}
	return s.schemes[s.r.IntN(len(s.schemes))]
}

func (s *script) instance() {
	x, level := s.scheme(), s.r.IntN(4)
	want := check(func() bool { return !x.p.good() }, api.ErrType, func() bool { return x.p.tooLarge() }, api.ErrLong)
	var m *thing
	var vars []*thing
	if want == api.OK {
		m, vars = s.w.instance(x.p, level)
	}
	var l [2][]int
	s.made(want, m, func(b *Book, i int) (n int, e api.Errno) { n, l[i], e = b.Instance(x.s[i], level); return n, e })
	if len(l[0]) != len(vars) || len(l[1]) != len(vars) {
		s.t.Fatalf("%v: Instance: %v; want %d", s.steps, l, len(vars))
	}
	for i, v := range vars {
		s.pool = append(s.pool, twin{[2]int{l[0][i], l[1][i]}, v})
	}
}

func (s *script) put() {
	x := s.scheme()
	n := len(x.p.vars)
	if s.chance(20) {
		n++
	}
	l, m, ok := s.several(n)
	var t *thing
	want := check(
		func() bool { return !ok || !x.p.good() }, api.ErrType,
		func() bool { return n != len(x.p.vars) }, api.ErrArity,
		func() bool { return x.p.tooLarge() || tooLarge(m...) }, api.ErrLong,
		func() bool { t = x.p.with(m); return tooLarge(t) }, api.ErrLong)
	s.made(want, t, func(b *Book, i int) (int, api.Errno) { return b.Put(x.s[i], l[i]...) })
}

func (s *script) replace() {
	x, by, con := s.some(), s.scheme(), s.r.IntN(len(s.w.cons)+1)
	if s.chance(2) { // one that takes as many
		for range 50 {
			if con < len(s.w.cons) && s.w.cons[con].arity == len(by.p.vars) {
				break
			}
			con = s.r.IntN(len(s.w.cons))
		}
	}
	var t *thing
	want := check(
		func() bool { return x.m == nil || con == len(s.w.cons) || !by.p.good() }, api.ErrType,
		func() bool { return s.w.cons[con].arity != len(by.p.vars) }, api.ErrArity,
		func() bool { return tooLarge(x.m) || by.p.tooLarge() }, api.ErrLong,
		func() bool { t = replaced(x.m, con, by.p); return tooLarge(t) }, api.ErrLong)
	s.made(want, t, func(b *Book, i int) (int, api.Errno) { return b.Replace(x.n[i], con, by.s[i]) })
}

func (s *script) cover() {
	x, y := s.scheme(), s.scheme()
	want := s.w.covers(x.p, y.p)
	for i, b := range s.books {
		if got := b.Covers(x.s[i], y.s[i]); got != want {
			s.t.Fatalf("%v: Covers: %t; want %t", s.steps, got, want)
		}
	}
	if want {
		s.covers[1]++
	} else {
		s.covers[0]++
	}
}

// step makes a call.
func (s *script) step() {
	all := []struct {
		name string
		call func()
	}{
		{"Var", s.makeVar}, {"Var", s.makeVar}, {"Rigid", s.makeRigid}, {"Apply", s.makeApply}, {"Apply", s.makeApply}, {"Arrow", s.makeArrow},
		{"Record", func() { s.makeRecord(false) }}, {"Record", func() { s.makeRecord(false) }}, {"Open", func() { s.makeRecord(true) }}, {"Open", func() { s.makeRecord(true) }},
		{"Unify", s.unify}, {"Unify", s.unify}, {"Unify", s.unify}, {"Unify", s.unify}, {"Unify", s.unify}, {"Unify", s.unify},
		{"Settle", s.settle}, {"Generalize", s.generalize}, {"Instance", s.instance}, {"Put", s.put}, {"Replace", s.replace}, {"Covers", s.cover}, {"Covers", s.cover},
	}
	if s.chance(s.wide) {
		s.steps = append(s.steps, "wide")
		s.makeWide()
		return
	}
	c := all[s.r.IntN(len(all))]
	s.steps = append(s.steps, c.name)
	c.call()
}

// judge holds all types of the pool against the model's.
func (s *script) judge() {
	for i, b := range s.books {
		j := judge{s, b, map[int]*thing{}, map[*thing]int{}, map[twin]struct{}{}}
		for _, x := range s.pool {
			j.same(x.n[i], x.m)
		}
		for _, x := range s.pool {
			j.tells(x.n[i], x.m)
		}
	}
}

// judge holds types of a book against the model's.
type judge struct {
	*script
	b     *Book
	there map[int]*thing // of the book's variables: the model's
	back  map[*thing]int
	met   map[twin]struct{}
}

// same fails if they are not the same.
func (j *judge) same(n int, m *thing) {
	m = m.now()
	pair := twin{[2]int{n}, m}
	if _, again := j.met[pair]; again {
		return
	}
	j.met[pair] = struct{}{}
	told, ok := j.b.Look(n)
	want := api.Type{Kind: m.kind, Con: m.con, Level: m.level, Equal: m.equal, Class: m.class, Rigid: m.name, Open: m.open, Labels: m.labels(), Args: told.Args}
	parts := m.parts()
	if !ok || !sameType(told, want) || len(told.Args) != len(parts) {
		j.t.Fatalf("%v: Look: %+v; want %+v", j.steps, told, want)
	}
	if m.kind == api.YVar {
		v := j.b.now(n)
		if (j.there[v] != nil && j.there[v] != m) || (j.back[m] != 0 && j.back[m] != v+1) {
			j.t.Fatalf("%v: variable %d is another one", j.steps, n)
		}
		j.there[v], j.back[m] = m, v+1
	}
	for i, p := range parts {
		j.same(told.Args[i], p)
	}
}

// tells fails if something else is told of a type than the model has it.
func (j *judge) tells(n int, m *thing) {
	if got, want := j.b.Equal(n), j.w.equals(m, map[*thing]bool{}); got != want {
		j.t.Fatalf("%v: Equal: %t", j.steps, got)
	}
	free := j.b.Free(n)
	text, e := j.b.Text(n)
	if tooLarge(m) {
		if len(free) != 0 || text != "" || e != api.ErrLong {
			j.t.Fatalf("%v: %v, %s, %d of a too large one", j.steps, free, text, e)
		}
		return
	}
	if want := j.w.text(m); text != want || e != api.OK {
		j.t.Fatalf("%v: Text: %s, %d; want %s", j.steps, text, e, want)
	}
	want := m.free()
	if len(free) != len(want) {
		j.t.Fatalf("%v: Free: %v", j.steps, free)
	}
	for i, v := range free {
		if j.there[v] != want[i] {
			j.t.Fatalf("%v: Free: %v", j.steps, free)
		}
	}
}

// played is a script of some calls, which must answer what the model does.
func played(t *testing.T, seed uint64) *script {
	s := newScript(t, seed)
	for range 12 {
		for range 6 {
			s.step()
		}
		s.judge()
	}
	return s
}

const scripts = 300

// P7.1 to P7.5, P7.7: books do by chance what the model does.
func TestScripts(t *testing.T) {
	errnos := map[api.Errno]int{}
	var covers [2]int
	for seed := range uint64(scripts) {
		s := played(t, seed)
		for e, n := range s.errnos {
			errnos[e] += n
		}
		covers[0] += s.covers[0]
		covers[1] += s.covers[1]
	}
	for _, e := range []api.Errno{api.OK, api.ErrType, api.ErrLong, api.ErrUnify, api.ErrOccurs, api.ErrEquality, api.ErrClass, api.ErrFields, api.ErrRigid} {
		if errnos[e] < scripts/30 {
			t.Errorf("the error %d was met %d times", e, errnos[e])
		}
	}
	if min(covers[0], covers[1]) < scripts {
		t.Errorf("Covers: %v", covers)
	}
}

// FuzzScripts plays more of them.
func FuzzScripts(f *testing.F) {
	f.Add(uint64(scripts))
	f.Fuzz(func(t *testing.T, seed uint64) { played(t, seed) })
}
