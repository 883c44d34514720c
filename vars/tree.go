package vars

// A branch has 1 << fanBits kids, or values.
const (
	fanBits = 3
	fan     = 1 << fanBits
)

// tree is bindings by their variables' digits, the highest first: so variables with numbers near one another stand in the same branch, and many of them are put there at once.
type tree[T any] struct {
	top  *branch[T]
	high int // how many levels of branches stand above those with values
}

// branch has branches below it, or, at the lowest level, values.
type branch[T any] struct {
	kids [fan]*branch[T]
	vals *[fan]T
	has  [fan]bool
}

// with is a tree with more bindings, which rise by their names; all but the branches on the way to these is shared.
func (t *tree[T]) with(l []*Scope[T]) *tree[T] {
	c := tree[T]{}
	if t != nil {
		c = *t
	}
	for l[len(l)-1].name>>(fanBits*(c.high+1)) > 0 {
		if c.top != nil {
			c.top = &branch[T]{kids: [fan]*branch[T]{c.top}}
		}
		c.high++
	}
	c.top = c.top.with(l, c.high)
	return &c
}

// with is a branch, of so many levels above the lowest one, with more bindings.
func (b *branch[T]) with(l []*Scope[T], level int) *branch[T] {
	c := branch[T]{}
	if b != nil {
		c = *b
	}
	if level == 0 {
		c.put(l)
		return &c
	}
	for len(l) > 0 {
		kid, n := digit(int(l[0].name), level), 1
		for n < len(l) && digit(int(l[n].name), level) == kid {
			n++
		}
		c.kids[kid] = c.kids[kid].with(l[:n], level-1)
		l = l[n:]
	}
	return &c
}

// put puts bindings into a branch of the lowest level.
func (b *branch[T]) put(l []*Scope[T]) {
	vals := [fan]T{}
	if b.vals != nil {
		vals = *b.vals
	}
	b.vals = &vals
	for _, s := range l {
		i := digit(int(s.name), 0)
		b.vals[i], b.has[i] = s.val, true
	}
}

// digit is where a variable stands in a branch of a level.
func digit(name, level int) int { return name >> (fanBits * level) % fan }

// find is what a variable is bound to, and whether it is.
func (t *tree[T]) find(name int) (T, bool) {
	var none T
	if t == nil || name>>(fanBits*(t.high+1)) != 0 {
		return none, false
	}
	b := t.top
	for level := t.high; level > 0 && b != nil; level-- {
		b = b.kids[digit(name, level)]
	}
	if b == nil {
		return none, false
	}
	i := digit(name, 0)
	if !b.has[i] {
		return none, false
	}
	return b.vals[i], true
}
