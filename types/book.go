package types

import "kiln/api"

// cell is what a book keeps of a type: what is told of it, and what is not.
type cell struct {
	api.Type
	rigid bool // of a variable: it is itself alone, even if its name is empty
	to    int  // of a variable that is another type now (its Kind is passed): that one
	count int  // of a variable: how many others are it now
}

// passed is the Kind of what was a variable, and is another type now.
const passed api.TypeKind = 0

// isFlexible tells whether it is a variable that may be made the same as others.
func (c cell) isFlexible() bool { return c.Kind == api.YVar && !c.rigid }

// made tells whether New made the book.
func (b *Book) made() bool { return b != nil && b.self == b }

// has tells whether all these are types of the book.
func (b *Book) has(types ...int) bool {
	for _, t := range types {
		if t < 0 || t >= len(b.cells) {
			return false
		}
	}
	return true
}

func (b *Book) hasCon(con int) bool { return con >= 0 && con < len(b.cons) }

func isLevel(level int) bool { return level >= 0 && level <= api.MaxLevel }

// now is the type that a type is now.
func (b *Book) now(t int) int {
	for b.cells[t].Kind == passed {
		t = b.cells[t].to
	}
	return t
}

// at is what is known now of a type.
func (b *Book) at(t int) cell { return b.cells[b.now(t)] }

// left is what is left of a size when types, written out, are taken from it; below 0, if they are larger. It looks at no more parts than the size allows.
func (b *Book) left(size int, types ...int) int {
	for _, t := range types {
		if size <= 0 {
			return -1
		}
		size = b.left(size-1, b.cells[b.now(t)].Args...)
	}
	return size
}

// large tells whether one of these is larger than a type may be.
func (b *Book) large(types ...int) bool {
	for _, t := range types {
		if b.left(api.MaxSize, t) < 0 {
			return true
		}
	}
	return false
}

// build puts a new type into the book, if it is not too large and there is room.
func (b *Book) build(c cell) (int, api.Errno) {
	switch {
	case b.left(api.MaxSize-1, c.Args...) < 0:
		return 0, api.ErrLong
	case len(b.cells) >= api.MaxTypes:
		return 0, api.ErrMany
	}
	return b.add(c), api.OK
}

// add puts a new type into the book.
func (b *Book) add(c cell) int {
	b.cells = append(b.cells, c)
	return len(b.cells) - 1
}

// forget takes all types from a number on out of the book: none of those ahead may be one of them.
func (b *Book) forget(from int) {
	clear(b.cells[from:])
	b.cells = b.cells[:from]
}

// walk visits all parts of types that are not too large, written out: each ahead of its own parts, and these from the left.
func (b *Book) walk(visit func(part int), types ...int) {
	for _, t := range types {
		t = b.now(t)
		visit(t)
		b.walk(visit, b.cells[t].Args...)
	}
}

// free are the variables of a type that is not too large.
func (b *Book) free(t int) []int {
	var l []int
	met := map[int]struct{}{}
	b.walk(func(p int) {
		if _, again := met[p]; !again && b.cells[p].Kind == api.YVar {
			met[p] = struct{}{}
			l = append(l, p)
		}
	}, t)
	return l
}
