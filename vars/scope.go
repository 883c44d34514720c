package vars

// longest is how many bindings may stand in a scope's list.
const longest = 16

// Scope is what variables, numbers from 0 on, are bound to: the last few bindings in a list, all those ahead of them in a tree. So one more costs little most of the time, and no variable is far away however many there are. A scope stays as it is; nil is the one without bindings.
type Scope[T any] struct {
	val   T
	name  int32
	count int32     // how many stand in the list from here on
	next  *Scope[T] // the binding ahead of it
	rest  *tree[T]  // what stands ahead of the list
}

// With is a scope with one binding more, which counts from there on.
func (s *Scope[T]) With(name int, val T) *Scope[T] {
	if s == nil {
		return &Scope[T]{val: val, name: int32(name), count: 1}
	}
	if s.count >= longest {
		s = s.packed()
	}
	return &Scope[T]{val: val, name: int32(name), count: s.count + 1, next: s, rest: s.rest}
}

// Kept is the same scope for what many will begin with: with room for some bindings till all must go into the tree.
func (s *Scope[T]) Kept() *Scope[T] {
	if s == nil || s.count <= longest/2 {
		return s
	}
	return s.packed()
}

// Find is what a variable is bound to, and whether it is.
func (s *Scope[T]) Find(name int) (T, bool) {
	if s == nil {
		var none T
		return none, false
	}
	for b := s; b != nil && b.count > 0; b = b.next {
		if b.name == int32(name) {
			return b.val, true
		}
	}
	return s.rest.find(name)
}

// packed is the same scope with all its bindings in the tree.
func (s *Scope[T]) packed() *Scope[T] {
	var list [longest]*Scope[T]
	n := 0
	for b := s; b != nil && b.count > 0; b = b.next {
		n = insert(&list, n, b)
	}
	return &Scope[T]{rest: s.rest.with(list[:n])}
}

// insert puts a binding among others by its name, of which there are n; if its name is there, that one counts.
func insert[T any](list *[longest]*Scope[T], n int, b *Scope[T]) int {
	at := n
	for at > 0 && list[at-1].name > b.name {
		at--
	}
	if at > 0 && list[at-1].name == b.name {
		return n
	}
	copy(list[at+1:n+1], list[at:n])
	list[at] = b
	return n + 1
}
