package elab

import (
	"math/rand"
	"reflect"
	"slices"
	"strconv"
	"testing"

	"kiln/api"
	"kiln/derive"
	"kiln/lex"
	"kiln/tree"
)

// tryTree is the bare tree of a text; false, if a layer below refuses it.
func tryTree(text string) ([]api.Node, int, bool) {
	tokens, _, _, e := lex.Scan(text)
	if e != api.OK {
		return nil, 0, false
	}
	l, root, _, _, e := tree.Parse(tokens)
	if e != api.OK {
		return nil, 0, false
	}
	l, root, _, _, e = derive.Derive(l, root)
	return l, root, e == api.OK
}

// pair is an elaborator with a second reading, and which type constructor of the one is which of the other.
type pair struct {
	t    testing.TB
	e    *Elab
	r    *reading
	cons map[int]int
	back map[int]int
}

// prelude is what the structure M has, and its structure K: some names more than once.
const (
	prelude = "datatype 'a opt = NONE | SOME of 'a exception X of int and Y val id = 1 val id = fn x => x val n = 1 val lost = 2 datatype lost = lost type opt' = int type opt' = bool"
	within  = "exception Z val same = fn x => x val w = ref 1 val w = ref nil val n = 2.0"
)

// newPair makes both, with the same structures.
func newPair(t testing.TB) *pair {
	t.Helper()
	e, other := New(), New()
	p := &pair{t, e, newReading(other.Env(), other.Book()), map[int]int{}, map[int]int{}}
	first := len(e.Env().Vals)
	types := len(e.Env().Types)
	p.step(prelude)
	p.step(within)
	wrap := func(v api.Env) api.Env {
		k := slices.IndexFunc(v.Vals, func(e api.Entry) bool { return e.Name == "Z" })
		inner := api.Str{Name: "K", Env: api.Env{Vals: v.Vals[k:]}}
		m := api.Str{Name: "M", At: api.Access{Id: 50, Path: []int{3}}, Env: api.Env{Vals: v.Vals[first:k], Types: v.Types[types:], Strs: []api.Str{{Name: "K", Env: api.Env{Vals: v.Vals[k : k+1]}}, inner}}}
		return api.Env{Vals: v.Vals[:first], Types: v.Types[:types], Strs: append(v.Strs, m)}
	}
	e.Set(wrap(e.Env()))
	p.r.do(func(r *reading) { r.env = wrap(r.env) })
	return p
}

// step elaborates a text's declarations by both, and holds the answers against each other; it tells how many were taken, and the errors of the others.
func (p *pair) step(text string) (int, []api.Errno) {
	p.t.Helper()
	l, root, ok := tryTree(text)
	if !ok {
		return 0, nil
	}
	if e := p.e.Begin(byNumber(l), root); e != api.OK {
		p.t.Fatalf("%q: Begin: %v", text, e)
	}
	p.r.do(func(r *reading) { r.l, r.notes = l, map[int]api.Note{} })
	taken := 0
	var errnos []api.Errno
	for _, i := range l[root].Kids {
		line, _, got := p.e.Dec(i)
		at, want := p.r.dec(i)
		if got != want || line-1 != at {
			p.t.Fatalf("%q: declaration %d: %v at %d; want %v at %d", text, i, got, line-1, want, at)
		}
		if got == api.OK {
			taken++
		} else {
			errnos = append(errnos, got)
			p.cons, p.back = map[int]int{}, map[int]int{} // the second reading has new ones now
		}
		p.compare(text)
	}
	return taken, errnos
}

// compare holds environments, notes and numbers against each other.
func (p *pair) compare(text string) {
	p.t.Helper()
	if why := p.envs(p.e.Env(), p.r.env); why != "" {
		p.t.Fatalf("%q: %s", text, why)
	}
	for i, n := range p.e.Notes() {
		want := p.r.notes[i]
		if n.Is == api.SCon && p.con(n.Con, want.Con) {
			n.Con = want.Con
		}
		if len(n.Labels)+len(want.Labels) == 0 {
			n.Labels, want.Labels = nil, nil
		}
		if !reflect.DeepEqual(n, want) {
			p.t.Fatalf("%q: node %d: %v; want %v", text, i, n, want)
		}
	}
	if p.e.next != p.r.next {
		p.t.Fatalf("%q: the next number is %d; want %d", text, p.e.next, p.r.next)
	}
}

// con tells whether two type constructors may be the same, and keeps it.
func (p *pair) con(a, b int) bool {
	if k, ok := p.cons[a]; ok {
		return k == b
	}
	if _, ok := p.back[b]; ok {
		return false
	}
	n, arity, equal, _ := p.e.Book().Named(a)
	m, other, same, _ := p.r.b.Named(b)
	p.cons[a], p.back[b] = b, a
	return n == m && arity == other && equal == same
}

// envs tells in what two environments differ.
func (p *pair) envs(a, b api.Env) string {
	if len(a.Vals) != len(b.Vals) || len(a.Types) != len(b.Types) || len(a.Strs) != len(b.Strs) {
		return "environments of other lengths"
	}
	for i, t := range a.Types {
		u := b.Types[i]
		if t.Name != u.Name || !p.schemes(t.Scheme, u.Scheme) || len(t.Cons) != len(u.Cons) {
			return "the type " + t.Name
		}
		for k, c := range t.Cons {
			if !p.entries(c, u.Cons[k]) {
				return "the constructor " + c.Name + " of " + t.Name
			}
		}
	}
	for i, e := range a.Vals {
		if !p.entries(e, b.Vals[i]) {
			s, _ := p.e.Book().Text(e.Scheme.Type)
			u, _ := p.r.b.Text(b.Vals[i].Scheme.Type)
			return "the value " + e.Name + ": " + strconv.Itoa(len(e.Scheme.Vars)) + " of " + s + "; want " + strconv.Itoa(len(b.Vals[i].Scheme.Vars)) + " of " + u
		}
	}
	for i, s := range a.Strs {
		if s.Name != b.Strs[i].Name || !reflect.DeepEqual(s.At, b.Strs[i].At) {
			return "the structure " + s.Name
		}
		if why := p.envs(s.Env, b.Strs[i].Env); why != "" {
			return s.Name + ": " + why
		}
	}
	return ""
}

func (p *pair) entries(a, b api.Entry) bool {
	if a.Is == api.SCon && !p.con(a.Con, b.Con) {
		return false
	}
	a.Con, b.Con = 0, 0
	same := p.schemes(a.Scheme, b.Scheme)
	a.Scheme, b.Scheme = api.Scheme{}, api.Scheme{}
	return same && reflect.DeepEqual(a, b)
}

// schemes tells whether two schemes are the same, variables being what stands at the same places.
func (p *pair) schemes(a, b api.Scheme) bool {
	if len(a.Vars) != len(b.Vars) {
		return false
	}
	vars := map[int]int{}
	for i, v := range a.Vars {
		vars[v] = b.Vars[i]
	}
	return p.types(a.Type, b.Type, vars)
}

func (p *pair) types(a, b int, vars map[int]int) bool {
	x, _ := p.e.Book().Look(a)
	y, _ := p.r.b.Look(b)
	if x.Kind != y.Kind || len(x.Args) != len(y.Args) || !slices.Equal(x.Labels, y.Labels) {
		return false
	}
	switch x.Kind {
	case api.YCon:
		if !p.con(x.Con, y.Con) {
			return false
		}
	case api.YVar:
		one, other := p.e.Book().Free(a)[0], p.r.b.Free(b)[0]
		if k, ok := vars[one]; ok && k != other {
			return false
		}
		vars[one] = other
		if x.Equal != y.Equal || x.Class != y.Class || x.Rigid != y.Rigid || x.Open != y.Open {
			return false
		}
	}
	for i := range x.Args {
		if !p.types(x.Args[i], y.Args[i], vars) {
			return false
		}
	}
	return true
}

// FuzzPrograms: programs at random, as a second reading does it.
func FuzzPrograms(f *testing.F) {
	f.Add(int64(1))
	f.Fuzz(func(t *testing.T, seed int64) {
		p := newPair(t)
		s := &scribe{Rand: rand.New(rand.NewSource(seed))}
		for _, text := range s.program() {
			p.step(text)
		}
	})
}

// P8.2, P8.5, P8.6: programs at random are elaborated as a second reading does it.
func TestSecondReading(t *testing.T) {
	taken := 0
	errnos := map[api.Errno]int{}
	rounds := 1500
	if testing.Short() {
		rounds = 200
	}
	for seed := range rounds {
		p := newPair(t)
		s := &scribe{Rand: rand.New(rand.NewSource(int64(seed)))}
		for _, text := range s.program() {
			n, l := p.step(text)
			taken += n
			for _, e := range l {
				errnos[e]++
			}
		}
	}
	t.Logf("taken %d, refused %v", taken, errnos)
	for _, e := range []api.Errno{api.ErrUnify, api.ErrOccurs, api.ErrEquality, api.ErrClass, api.ErrFields, api.ErrRigid, api.ErrArity, api.ErrUnbound, api.ErrPat, api.ErrEscape, api.ErrTwice, api.ErrOverflow} {
		if errnos[e] == 0 && !testing.Short() {
			t.Errorf("none was refused by %v", e)
		}
	}
}
