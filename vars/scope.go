package vars

// longest is how many bindings may stand in a scope's list.
const longest = 16

// Scope is what variables, numbers from 0 on, are bound to: the last few bindings in a list, all those ahead of them in a tree. So one more costs little most of the time, and no variable is far away however many there are. A scope stays as it is; nil is the one without bindings.
type Scope[T any] struct {
	val   T
	name  int32
	count int32     // how many stand in the list from here on
	next  *Scope[T] // the binding ahead of it
	rest  *tree[T]  // what stands ahead of the list
}

// With is a scope with one binding more, which counts from there on.
func (s *Scope[T]) With(name int, val T) *Scope[T] {
	if s == nil {
		return &Scope[T]{val: val, name: int32(name), count: 1}
	}
	if s.count >= longest {
		s = s.packed()
	}
	return &Scope[T]{val: val, name: int32(name), count: s.count + 1, next: s, rest: s.rest}
}

// Kept is the same scope for what many will begin with: with room for some bindings till all must go into the tree.
func (s *Scope[T]) Kept() *Scope[T] {
	if s == nil || s.count <= longest/2 {
		return s
	}
	return s.packed()
}

// Find is what a variable is bound to, and whether it is.
func (s *Scope[T]) Find(name int) (T, bool) {
	if s == nil {
		var none T
		return none, false
	}
	for b := s; b != nil && b.count > 0; b = b.next {
		if b.name == int32(name) {
			return b.val, true
		}
	}
	return s.rest.find(name)
}

// packed is the same scope with all its bindings in the tree.
func (s *Scope[T]) packed() *Scope[T] {
	var list [longest]*Scope[T]
	n := 0
	for b := s; b != nil && b.count > 0; b = b.next {
		list[n] = b
		n++
	}
	rest := s.rest
	for n > 0 { // the last binding of a variable counts
		n--
		rest = rest.with(int(list[n].name), list[n].val)
	}
	return &Scope[T]{rest: rest}
}

// fan is how many kids a tree's node has.
const fan = 4

// tree is bindings by their variables: that of 0 at the root, those of 1, 5, 9 and so on below its first kid as 0, 1, 2 and so on, and likewise below the others.
type tree[T any] struct {
	kids [fan]*tree[T]
	val  T
	has  bool
}

// with is a tree with one binding more; all but the nodes on the way to it are shared.
func (t *tree[T]) with(name int, val T) *tree[T] {
	var c tree[T]
	if t != nil {
		c = *t
	}
	if name == 0 {
		c.val, c.has = val, true
		return &c
	}
	kid := (name - 1) % fan
	c.kids[kid] = c.kids[kid].with((name-1)/fan, val)
	return &c
}

// find is what a variable is bound to, and whether it is.
func (t *tree[T]) find(name int) (T, bool) {
	for t != nil && name > 0 {
		t, name = t.kids[(name-1)%fan], (name-1)/fan
	}
	if t == nil {
		var none T
		return none, false
	}
	return t.val, t.has
}
