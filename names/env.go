// Package names is environments as layers 8 and 10 keep them: names are found fast, what several structures have alike is kept once, and what is opened is not written out.
package names

import (
	"iter"

	"kiln/api"
)

// Env is an environment. But for that of a Scope it stays as it is.
type Env struct {
	vals  Table[api.Entry]
	types Table[api.Typ]
	strs  Table[Str]
	opens []opened
	first int // the least stamp that something in it may have
	next  int // the one that is given out next
	known known
}

// known is what was asked of an environment before.
type known struct {
	slots *slots
	size  *measure
	marks uint64 // of all names in it; 0 till somebody asks
}

// Str is a structure, and where it is.
type Str struct {
	Name string
	At   api.Access
	Env  *Env
}

// opened is a structure that was opened: all that it says stands where it was opened.
type opened struct {
	Str
	stamp int
	last  *last // it, and behind it those ahead of it
}

// last is a structure that was opened, and the next one ahead of it: but those that have the same environment as one behind them are left out, as far as they are near.
type last struct {
	place int // among those that were opened
	next  *last
}

// Where tells of what was found when it was put there, or opened; and whether it is another one's: of a structure, or put there as it stood elsewhere.
type Where struct {
	Stamp int
	Other bool
}

// Val is what a name stands for as a value.
func (v *Env) Val(name string) (api.Entry, Where, bool) { return seek(v, &v.vals, name, Str.Val) }

// Typ is what a name stands for as a type.
func (v *Env) Typ(name string) (api.Typ, Where, bool) { return seek(v, &v.types, name, Str.Typ) }

// Str is what a name stands for as a structure.
func (v *Env) Str(name string) (Str, Where, bool) { return seek(v, &v.strs, name, Str.Sub) }

// seek is the item of a name that counts: of those that stand in a table, and of those in what was opened behind it.
func seek[T any](v *Env, t *Table[T], name string, in func(Str, string) (T, bool)) (T, Where, bool) {
	at, stamp := t.find(name), none
	if at != none {
		stamp = t.rows[at].stamp
	}
	mark := markOf(name)
	for l := v.lastOpened(); l != nil; l = l.next {
		o := &v.opens[l.place]
		if o.stamp <= stamp {
			break
		}
		if o.Env.marks()&mark == 0 {
			continue
		}
		if item, ok := in(o.Str, name); ok {
			return item, Where{o.stamp, true}, true
		}
	}
	if at == none {
		var nothing T
		return nothing, Where{}, false
	}
	return t.rows[at].item, Where{stamp, t.rows[at].other}, true
}

// markOf is a bit that other names are not likely to have: an environment without it has not the name.
func markOf(name string) uint64 {
	n := uint32(len(name))
	for i := range len(name) {
		n = n*31 + uint32(name[i])
	}
	return 1 << (n * 2654435769 >> 26)
}

// marks are those of all names in an environment that stays as it is, and one bit at least.
func (v *Env) marks() uint64 {
	if v.known.marks == 0 {
		v.known.marks = marksOf(v.vals.rows) | marksOf(v.types.rows) | marksOf(v.strs.rows) | 1
		for _, o := range v.opens {
			v.known.marks |= o.Env.marks()
		}
	}
	return v.known.marks
}

func marksOf[T any](rows []row[T]) uint64 {
	marks := uint64(0)
	for _, r := range rows {
		marks |= markOf(r.name)
	}
	return marks
}

// lastOpened is the structure that was opened last, or nil.
func (v *Env) lastOpened() *last {
	if len(v.opens) == 0 {
		return nil
	}
	return v.opens[len(v.opens)-1].last
}

// open puts all that a structure says behind what is there.
func (v *Env) open(s Str, stamp int) {
	for s.Env.Rows() == 1 && len(s.Env.opens) == 1 { // it says what that one says, and has the same fields
		s.Env = s.Env.opens[0].Env
	}
	if s.Env.Rows() == 0 {
		return
	}
	v.opens = append(v.opens, opened{s, stamp, &last{len(v.opens), v.without(v.lastOpened(), s.Env, near)}})
}

// near is how far it is looked for a structure that was opened before.
const near = 1000

// without are structures that were opened, without the one that has an environment, if that is near.
func (v *Env) without(l *last, env *Env, near int) *last {
	switch {
	case l == nil || near == 0:
		return l
	case v.opens[l.place].Env == env:
		return l.next
	}
	if others := v.without(l.next, env, near-1); others != l.next {
		return &last{l.place, others}
	}
	return l
}

// FindStr is what a long name stands for as a structure. There must be one name at least.
func (v *Env) FindStr(path []string) (Str, Where, bool) {
	s, where, ok := v.Str(path[0])
	for _, name := range path[1:] {
		if !ok {
			break
		}
		s, ok = s.Sub(name)
	}
	return s, where, ok
}

// FindVal is what a long name stands for as a value.
func (v *Env) FindVal(path []string, name string) (api.Entry, Where, bool) {
	if len(path) == 0 {
		return v.Val(name)
	}
	s, where, ok := v.FindStr(path)
	if !ok {
		return api.Entry{}, Where{}, false
	}
	where.Other = true
	e, ok := s.Val(name)
	return e, where, ok
}

// FindTyp is what a long name stands for as a type.
func (v *Env) FindTyp(path []string, name string) (api.Typ, Where, bool) {
	if len(path) == 0 {
		return v.Typ(name)
	}
	s, where, ok := v.FindStr(path)
	if !ok {
		return api.Typ{}, Where{}, false
	}
	t, ok := s.Typ(name)
	return t, where, ok
}

// Vals are all values, in order.
func (v *Env) Vals() iter.Seq[api.Entry] { return all(v, v.vals.rows, Str.vals) }

// Types are all types, in order.
func (v *Env) Types() iter.Seq[api.Typ] { return all(v, v.types.rows, Str.types) }

// Strs are all structures, in order.
func (v *Env) Strs() iter.Seq[Str] { return all(v, v.strs.rows, Str.subs) }

// all are the items of a table, and those of what was opened, in order.
func all[T any](v *Env, rows []row[T], within func(Str) iter.Seq[T]) iter.Seq[T] {
	return func(yield func(T) bool) {
		at := 0
		for _, o := range v.opens {
			for ; at < len(rows) && rows[at].stamp < o.stamp; at++ {
				if !yield(rows[at].item) {
					return
				}
			}
			for item := range within(o.Str) {
				if !yield(item) {
					return
				}
			}
		}
		for ; at < len(rows); at++ {
			if !yield(rows[at].item) {
				return
			}
		}
	}
}

// Envs are the environment and those of all structures in it, each once.
func (v *Env) Envs() iter.Seq[*Env] {
	return func(yield func(*Env) bool) {
		met := map[*Env]struct{}{v: {}}
		todo := []*Env{v}
		for len(todo) > 0 {
			v := todo[len(todo)-1]
			todo = todo[:len(todo)-1]
			if !yield(v) {
				return
			}
			for inner := range v.Inner() {
				if _, again := met[inner]; !again {
					met[inner] = struct{}{}
					todo = append(todo, inner)
				}
			}
		}
	}
}

// Inner are the environments of the structures that stand in the environment, or were opened there.
func (v *Env) Inner() iter.Seq[*Env] {
	return func(yield func(*Env) bool) {
		for _, o := range v.opens {
			if !yield(o.Env) {
				return
			}
		}
		for _, r := range v.strs.rows {
			if !yield(r.item.Env) {
				return
			}
		}
	}
}

// OwnVals are the values of the environment that no structure in it has.
func (v *Env) OwnVals() iter.Seq[api.Entry] { return items(v.vals.rows) }

// OwnTypes are its types that no structure in it has.
func (v *Env) OwnTypes() iter.Seq[api.Typ] { return items(v.types.rows) }

// Rows is how many things were put into the environment, or opened there.
func (v *Env) Rows() int {
	return len(v.vals.rows) + len(v.types.rows) + len(v.strs.rows) + len(v.opens)
}

func items[T any](rows []row[T]) iter.Seq[T] {
	return func(yield func(T) bool) {
		for _, r := range rows {
			if !yield(r.item) {
				return
			}
		}
	}
}
