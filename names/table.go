package names

import "slices"

// none is where a place might stand, but there is none.
const none = -1

// Table is names with what they stand for, in order: of several of a name the last one counts.
type Table[T any] struct {
	rows []row[T]
	last map[string]int // of each name the row that counts; nil till somebody asks
}

type row[T any] struct {
	name  string
	item  T
	stamp int  // when it was put there
	ahead int  // the row of the name that would count without this one, or none
	other bool // it was put there as it stood elsewhere
}

// Add puts a name behind the others.
func (t *Table[T]) Add(name string, item T) { t.add(row[T]{name: name, item: item}) }

// Find is what a name stands for.
func (t *Table[T]) Find(name string) (T, bool) {
	i := t.find(name)
	if i == none {
		var nothing T
		return nothing, false
	}
	return t.rows[i].item, true
}

// Items are what all names stand for, in order.
func (t *Table[T]) Items() []T {
	var l []T
	for _, r := range t.rows {
		l = append(l, r.item)
	}
	return l
}

func (t *Table[T]) add(r row[T]) {
	t.index()
	if len(t.rows) == cap(t.rows) { // twice as many: there may be millions, which the language would copy more often
		t.rows = slices.Grow(t.rows, len(t.rows))
	}
	t.rows = append(t.rows, r)
	t.link(len(t.rows) - 1)
}

// index is of each name the row that counts.
func (t *Table[T]) index() map[string]int {
	if t.last == nil {
		t.last = make(map[string]int, len(t.rows))
		for i := range t.rows {
			t.link(i)
		}
	}
	return t.last
}

// link makes a row the one that counts of its name.
func (t *Table[T]) link(i int) {
	r := &t.rows[i]
	ahead, ok := t.last[r.name]
	if !ok {
		ahead = none
	}
	r.ahead, t.last[r.name] = ahead, i
}

// find is the row that counts of a name, or none.
func (t *Table[T]) find(name string) int {
	if i, ok := t.index()[name]; ok {
		return i
	}
	return none
}

// since is a table of the rows from one on.
func (t *Table[T]) since(from int) Table[T] { return Table[T]{rows: slices.Clone(t.rows[from:])} }

// cut takes all rows from one on out of the table.
func (t *Table[T]) cut(from int) {
	t.index()
	for i := len(t.rows) - 1; i >= from; i-- {
		if r := t.rows[i]; r.ahead == none {
			delete(t.last, r.name)
		} else {
			t.last[r.name] = r.ahead
		}
	}
	clear(t.rows[from:])
	t.rows = t.rows[:from]
}

// put puts the rows of another table behind the others, as many stamps later.
func (t *Table[T]) put(more Table[T], later int) {
	for _, r := range more.rows {
		r.stamp += later
		t.add(r)
	}
}

// top is the stamp of the last row, or none.
func (t *Table[T]) top() int {
	if len(t.rows) == 0 {
		return none
	}
	return t.rows[len(t.rows)-1].stamp
}
