package match

// list is a list that grows at its end. It is never changed, so that lists that begin alike share their beginning; nil is the empty one.
type list[T any] struct {
	last  T
	ahead *list[T]
	count int
}

// with is the list with one more at its end.
func (l *list[T]) with(x T) *list[T] { return &list[T]{x, l, l.size() + 1} }

func (l *list[T]) size() int {
	if l == nil {
		return 0
	}
	return l.count
}

// slice is the list in new memory.
func (l *list[T]) slice() []T {
	s := make([]T, l.size())
	for i := len(s) - 1; i >= 0; i-- {
		s[i] = l.last
		l = l.ahead
	}
	return s
}
