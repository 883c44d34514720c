package names

import (
	"iter"

	"kiln/api"
)

// Most is how many bytes are told at once: of more the document promises nothing.
const Most = 1<<31 - 1

// How many bytes are in lists for each item.
const (
	entryBytes = 120
	typBytes   = 72
	strBytes   = 120
)

// Weigh is how many bytes the lists of an environment have at least, those in structures aside.
func Weigh(v api.Env) int {
	bytes := len(v.Vals)*entryBytes + len(v.Types)*typBytes + len(v.Strs)*strBytes
	for _, t := range v.Types {
		bytes += len(t.Cons) * entryBytes
	}
	return bytes
}

// Weight is how many bytes are kept for the environment at least, those for its structures' ones aside.
func (v *Env) Weight() int {
	return len(v.vals.rows)*entryBytes + (len(v.types.rows)+len(v.opens))*typBytes + len(v.strs.rows)*strBytes
}

// measure is how many items an environment has, and how many bytes these are when they are told: with those in structures, too. No number grows far beyond what can be told.
type measure struct {
	vals, types, strs int
	bytes, all        int
}

// add is both.
func (m measure) add(n measure) measure {
	sum := func(a, b int) int { return min(a+b, Most+1) }
	return measure{sum(m.vals, n.vals), sum(m.types, n.types), sum(m.strs, n.strs), sum(m.bytes, n.bytes), sum(m.all, n.all)}
}

// measured is how many items stand in the environment.
func (v *Env) measured() measure {
	m := measure{vals: len(v.vals.rows), types: len(v.types.rows), strs: len(v.strs.rows)}
	m.bytes = m.vals*entryBytes + m.types*typBytes + m.strs*strBytes
	for _, r := range v.types.rows {
		m.bytes += len(r.item.Cons) * entryBytes
	}
	m.all = m.bytes
	for _, r := range v.strs.rows {
		m = m.add(measure{all: r.item.Env.size().all})
	}
	for _, o := range v.opens {
		m = m.add(o.Env.size())
	}
	return m
}

// size is what is measured, of an environment that stays as it is.
func (v *Env) size() measure {
	if v.known.size == nil {
		m := v.measured()
		v.known.size = &m
	}
	return *v.known.size
}

// few is how many bytes of what is in structures are told, if all are too many.
const few = 1 << 27

// Told is environments in lists of their own. If all of them are more than can be told, large structures are told empty, and those of the environments that are too large by themselves.
func Told(envs ...*Env) []api.Env {
	var m measure
	for _, v := range envs {
		m = m.add(v.measured())
	}
	t := teller{Most, Most}
	if m.all > Most {
		t.inner = few
	}
	var l []api.Env
	for _, v := range envs {
		l = append(l, t.env(v, &t.outer))
	}
	return l
}

// teller tells environments.
type teller struct {
	outer int // how many bytes of the environments themselves may be told
	inner int // and how many of what is in their structures
}

// env is an environment in lists of its own, if these have no more bytes than are left, those in structures aside; and then so many fewer are left.
func (t *teller) env(v *Env, left *int) api.Env {
	m := v.measured()
	if m.bytes > *left {
		return api.Env{}
	}
	*left -= m.bytes
	return api.Env{Vals: list(m.vals, v.Vals(), CloneEntry), Types: list(m.types, v.Types(), CloneTyp), Strs: list(m.strs, v.Strs(), t.str)}
}

func (t *teller) str(s Str) api.Str {
	told := api.Str{Name: cloneText(s.Name), At: CloneAccess(s.At)}
	if s.Env.size().all <= t.inner {
		told.Env = t.env(s.Env, &t.inner)
	}
	return told
}

// list is what is made of items, as many as there are.
func list[A, T any](n int, items iter.Seq[A], of func(A) T) []T {
	if n == 0 {
		return nil
	}
	l := make([]T, 0, n)
	for item := range items {
		l = append(l, of(item))
	}
	return l
}

// Lent is the environment in lists that share memory, to be handed in to a layer below. If these would be too large, it is what counts of it.
func (v *Env) Lent() api.Env {
	left := Most
	for inner := range v.Envs() {
		left -= inner.measured().bytes
		if left < 0 {
			return v.LentThin()
		}
	}
	return lender{map[*Env]api.Env{}, exact}.env(v)
}

// LentThin is likewise of each name what counts.
func (v *Env) LentThin() api.Env { return lender{map[*Env]api.Env{}, thin}.env(v) }

// lender makes lists of environments, each once.
type lender struct {
	met map[*Env]api.Env
	how func(*Env) ([]api.Entry, []api.Typ, []Str)
}

func (l lender) env(v *Env) api.Env {
	if made, again := l.met[v]; again {
		return made
	}
	vals, types, strs := l.how(v)
	made := api.Env{Vals: vals, Types: types}
	for _, s := range strs {
		made.Strs = append(made.Strs, api.Str{Name: s.Name, At: s.At, Env: l.env(s.Env)})
	}
	l.met[v] = made
	return made
}

// exact is all of an environment.
func exact(v *Env) ([]api.Entry, []api.Typ, []Str) {
	m := v.measured()
	return list(m.vals, v.Vals(), same), list(m.types, v.Types(), same), list(m.strs, v.Strs(), same)
}

func same[T any](item T) T { return item }

// thin is what counts of an environment.
func thin(v *Env) ([]api.Entry, []api.Typ, []Str) {
	return counting(v.valNames(), v.Val), counting(v.typNames(), v.Typ), counting(v.strNames(), v.Str)
}

// counting are the items that names stand for.
func counting[T any](names []string, find func(string) (T, Where, bool)) []T {
	var l []T
	for _, name := range names {
		item, _, _ := find(name)
		l = append(l, item)
	}
	return l
}
