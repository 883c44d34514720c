package modules

import (
	"math/rand"
	"reflect"
	"slices"
	"strconv"
	"strings"
	"testing"

	"kiln/api"
	"kiln/derive"
	"kiln/types"
)

// writer writes what can be held against each other of two books: type constructors by their numbers, variables by the order in which they are first met.
type writer struct {
	*types.Book
	out strings.Builder
	met map[int]int
}

func newWriter(b *types.Book) *writer { return &writer{Book: b, met: map[int]int{}} }

func (w *writer) put(parts ...any) {
	for _, p := range parts {
		switch x := p.(type) {
		case string:
			w.out.WriteString(x)
		case int:
			w.out.WriteString(strconv.Itoa(x))
		case bool:
			w.out.WriteString(strconv.FormatBool(x))
		case api.Naming:
			w.out.WriteString(strconv.Itoa(int(x)))
		case api.Access:
			w.put("@", x.Id)
			for _, n := range x.Path {
				w.put(".", n)
			}
		}
		w.out.WriteString(" ")
	}
}

func (w *writer) ty(t int, vars []int) {
	part, ok := w.Look(t)
	if !ok {
		w.put("no type")
		return
	}
	w.put("(", int(part.Kind))
	switch part.Kind {
	case api.YCon:
		w.put(part.Con)
	case api.YVar:
		v := w.Free(t)[0]
		if at := slices.Index(vars, v); at >= 0 {
			w.put("var", at, part.Equal, ")")
			return
		}
		if _, met := w.met[v]; !met {
			w.met[v] = len(w.met)
		}
		w.put("loose", w.met[v], part.Equal, int(part.Class), part.Level, part.Rigid, part.Open)
	}
	for i, a := range part.Args {
		if len(part.Labels) > 0 {
			w.put(part.Labels[i])
		}
		w.ty(a, vars)
	}
	w.put(")")
}

func (w *writer) scheme(s api.Scheme) {
	var vars []int
	for _, v := range s.Vars {
		vars = append(vars, w.Free(v)[0])
	}
	w.put("/", len(vars))
	w.ty(s.Type, vars)
}

// entry writes an Entry; its own At, if that says something.
func (w *writer) entry(e api.Entry, at bool) {
	w.put("val", e.Name, e.Is)
	w.scheme(e.Scheme)
	if at {
		w.put(e.At)
	}
	if e.Is == api.SCon {
		w.put(e.Con, e.Tag, e.Count)
	}
	w.put(e.Arg, "\n")
}

func (w *writer) env(v api.Env, at bool) {
	for _, e := range v.Vals {
		w.entry(e, at)
	}
	for _, t := range v.Types {
		w.put("type", t.Name)
		w.scheme(t.Scheme)
		w.put("\n")
		for _, c := range t.Cons {
			w.entry(c, false)
		}
	}
	for _, s := range v.Strs {
		w.put("structure", s.Name)
		if at {
			w.put(s.At)
		}
		w.put("\n")
		w.env(s.Env, false)
		w.put("end\n")
	}
}

func (w *writer) sigma(s api.Sigma) {
	w.put("signature", s.Name)
	for _, con := range s.Flex {
		name, arity, equal, _ := w.Named(con)
		w.put(con, name, arity, int(equal))
	}
	w.put("\n")
	w.env(s.Env, true)
}

func (w *writer) functor(f api.Functor) {
	w.put("functor", f.Name, f.At)
	for _, con := range f.New {
		w.put(con)
	}
	w.put("\n")
	w.sigma(f.Param)
	w.env(f.Body, false)
}

func (w *writer) parts(l []api.Part) {
	for _, p := range l {
		w.put("part", p.Exn, p.Str)
		if p.Str {
			w.put(p.From.Name, int(p.From.Is), p.From.At, "\n{")
			w.parts(p.Sub)
			w.put("}\n")
		} else {
			w.entry(p.From, true)
		}
	}
}

// pair is a checker with a second reading.
type pair struct {
	t testing.TB
	m *Mods
	r *reading
}

func newPair(t testing.TB) *pair { return &pair{t, New(), newReading()} }

// step goes over a program by both, and holds the answers against each other.
func (p *pair) step(text string) api.Errno {
	p.t.Helper()
	l, root, ok := tryTree(text)
	if !ok {
		return api.ErrArg
	}
	return p.tree(text, byNumber(l), root)
}

func (p *pair) tree(text string, l []api.Node, root int) api.Errno {
	p.t.Helper()
	line, _, got := p.m.Program(l, root)
	at, want := p.r.program(l, root)
	if got != want || line != at {
		p.t.Fatalf("%q: %v at %d; want %v at %d", text, got, line-1, want, at-1)
	}
	if got != api.OK && line > 0 {
		p.m.Elab().Fresh() // as the second reading did
	}
	p.compare(text, len(l))
	return got
}

// differ tells the first line in which two texts differ.
func differ(a, b string) (string, string, bool) {
	x, y := strings.Split(a, "\n"), strings.Split(b, "\n")
	for i := range min(len(x), len(y)) {
		if x[i] != y[i] {
			return x[i], y[i], true
		}
	}
	return "lines", "other lines", len(x) != len(y)
}

func (p *pair) compare(text string, nodes int) {
	p.t.Helper()
	one, other := newWriter(p.m.Elab().Book()), newWriter(p.r.Book())
	one.env(p.m.Elab().Env(), true)
	other.env(p.r.Env(), true)
	for _, s := range p.m.Sigs() {
		one.sigma(s)
	}
	for _, f := range p.m.Functors() {
		one.functor(f)
	}
	for _, s := range p.r.sigs {
		other.sigma(s)
	}
	for _, f := range p.r.functors {
		other.functor(f)
	}
	for i := -1; i <= nodes; i++ {
		one.put("node", i)
		one.parts(p.m.Parts(i))
		other.put("node", i)
		other.parts(p.r.parts[i])
	}
	if x, y, bad := differ(one.out.String(), other.out.String()); bad {
		p.t.Fatalf("%q:\n%s\nwant\n%s", text, x, y)
	}
	notes, want := p.m.Elab().Notes(), p.r.Notes()
	for i := range notes {
		if !reflect.DeepEqual(notes[i], want[i]) {
			p.t.Fatalf("%q: node %d: %v; want %v", text, i, notes[i], want[i])
		}
	}
	var number int
	p.r.do(func(r *reading) { number = r.Fresh() })
	if a := p.m.Elab().Fresh(); a != number {
		p.t.Fatalf("%q: the next number is %d; want %d", text, a, number)
	}
}

// Programs at random, one behind the other.
func TestSecondReading(t *testing.T) {
	rounds := 600
	if testing.Short() {
		rounds = 100
	}
	seen := map[api.Errno]int{}
	for seed := range rounds {
		s := &scribe{Rand: rand.New(rand.NewSource(int64(seed)))}
		p := newPair(t)
		for range 3 {
			before := *s
			e := p.step(s.program())
			seen[e]++
			if e != api.OK {
				s.sigs, s.fcts, s.strs = before.sigs, before.fcts, before.strs
			}
		}
	}
	for _, e := range []api.Errno{api.OK, api.ErrUnbound, api.ErrModule, api.ErrMissing, api.ErrMatch, api.ErrWhere, api.ErrUnify, api.ErrArity} {
		if seen[e] == 0 {
			t.Errorf("no program with %v among them", e)
		}
	}
}

// strange is a bare tree that no text has: some nodes have others' kinds, names or kids.
func (s *scribe) strange(l []api.Node, root int) []api.Node {
	l = slices.Clone(l)
	for range 1 + s.Intn(3) {
		i, k := s.Intn(len(l)), s.Intn(len(l))
		was := l[i]
		switch s.Intn(4) {
		case 0:
			l[i].Text, l[i].Path = l[k].Text, l[k].Path
		case 1:
			l[i].Kind = l[k].Kind
		case 2:
			l[i].Kids = slices.Clone(l[k].Kids)
		case 3:
			if n := len(l[i].Kids); n > 0 && i > 0 {
				l[i].Kids = slices.Clone(l[i].Kids)
				l[i].Kids[s.Intn(n)] = s.Intn(i)
			}
		}
		if !derive.Bare(l, root) {
			l[i] = was
		}
	}
	return l
}

// Trees that are made by hand: names twice, declarations at several places, and so on.
func TestStrangeTrees(t *testing.T) {
	rounds := 700
	if testing.Short() {
		rounds = 200
	}
	seen, turned := map[api.Errno]int{}, 0
	for seed := range rounds {
		s := &scribe{Rand: rand.New(rand.NewSource(int64(seed)))}
		text := s.program()
		l, root, ok := tryTree(text)
		if !ok {
			continue
		}
		p := newPair(t)
		l = byNumber(l)
		for range 3 {
			made := s.strange(l, root)
			if !reflect.DeepEqual(made, l) {
				turned++
			}
			seen[p.tree(text, made, root)]++
		}
	}
	if turned < rounds || len(seen) < 8 || seen[api.OK] == 0 {
		t.Errorf("%d trees were turned, with the errors %v", turned, seen)
	}
}

func FuzzPrograms(f *testing.F) {
	for seed := range 20 {
		f.Add((&scribe{Rand: rand.New(rand.NewSource(int64(seed)))}).program())
	}
	f.Fuzz(func(t *testing.T, text string) {
		if len(text) > 2000 {
			return
		}
		p := newPair(t)
		p.step(text)
		p.step(text)
	})
}
