package names

import "kiln/api"

// Scope is an environment that grows, and can be cut back.
type Scope struct{ Env }

// Mark is how far a scope goes.
type Mark struct {
	Stamp                    int // of what is put behind it next
	vals, types, strs, opens int
}

// Mark is how far the scope goes now.
func (s *Scope) Mark() Mark {
	return Mark{s.next, len(s.vals.rows), len(s.types.rows), len(s.strs.rows), len(s.opens)}
}

// stamp is a new stamp.
func (s *Scope) stamp() int {
	s.next++
	return s.next - 1
}

// AddVal puts a value behind what is there.
func (s *Scope) AddVal(e api.Entry) {
	s.vals.add(row[api.Entry]{name: e.Name, item: e, stamp: s.stamp()})
}

// AddOther puts a value behind what is there as it stood elsewhere.
func (s *Scope) AddOther(e api.Entry) {
	s.vals.add(row[api.Entry]{name: e.Name, item: e, stamp: s.stamp(), other: true})
}

// AddTyp puts a type behind what is there.
func (s *Scope) AddTyp(t api.Typ) {
	s.types.add(row[api.Typ]{name: t.Name, item: t, stamp: s.stamp()})
}

// AddStr puts a structure behind what is there.
func (s *Scope) AddStr(t Str) { s.strs.add(row[Str]{name: t.Name, item: t, stamp: s.stamp()}) }

// Open puts all that a structure says behind what is there.
func (s *Scope) Open(t Str) { s.open(t, s.stamp()) }

// Since is what was put behind a mark.
func (s *Scope) Since(m Mark) *Env {
	v := &Env{vals: s.vals.since(m.vals), types: s.types.since(m.types), strs: s.strs.since(m.strs), first: m.Stamp, next: s.next}
	for _, o := range s.opens[m.opens:] {
		v.open(o.Str, o.stamp)
	}
	return v
}

// Cut takes all that was put behind a mark out of the scope, and answers it.
func (s *Scope) Cut(m Mark) *Env {
	out := s.Since(m)
	s.Drop(m)
	return out
}

// Drop takes all that was put behind a mark out of the scope. (Stamps are not given out again.)
func (s *Scope) Drop(m Mark) {
	s.vals.cut(m.vals)
	s.types.cut(m.types)
	s.strs.cut(m.strs)
	clear(s.opens[m.opens:])
	s.opens = s.opens[:m.opens]
}

// Put puts all of an environment behind what is there.
func (s *Scope) Put(v *Env) {
	later := s.next - v.first
	s.vals.put(v.vals, later)
	s.types.put(v.types, later)
	s.strs.put(v.strs, later)
	for _, o := range v.opens {
		s.open(o.Str, o.stamp+later)
	}
	s.next = v.next + later
}

// ValRows is how many values stand in the scope, those in what was opened aside.
func (s *Scope) ValRows() int { return len(s.vals.rows) }

// ValRow is one of these values.
func (s *Scope) ValRow(i int) api.Entry { return s.vals.rows[i].item }

// TypesStamp is the stamp of what was put there last that types may hang on: with the same stamp each type's name stands for the same.
func (s *Scope) TypesStamp() int {
	stamp := max(s.types.top(), s.strs.top())
	if n := len(s.opens); n > 0 {
		stamp = max(stamp, s.opens[n-1].stamp)
	}
	return stamp
}
