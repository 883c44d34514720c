package values

// page is how many of a cell's values are kept together.
const page = 64

// Cell is a thing of its own with a row of values: of a ref, an array, an exception's name. A large array takes room where something was set in it.
type Cell struct {
	size  int
	first Value
	rest  Value // what stands behind the first one where nothing was set
	pages map[int][]Value
}

// newCell is a new cell of so many values, each the same.
func newCell(size int, v Value) *Cell { return &Cell{size: size, first: v, rest: v} }

// get is a value of the row; false, if it has none there.
func (c *Cell) get(i int) (Value, bool) {
	if i < 0 || i >= c.size {
		return nil, false
	}
	if i == 0 {
		return c.first, true
	}
	if l, ok := c.pages[i/page]; ok {
		return l[i%page], true
	}
	return c.rest, true
}

// set puts a value into the row; false, if it has no such place.
func (c *Cell) set(i int, v Value) bool {
	if i < 0 || i >= c.size {
		return false
	}
	if i == 0 {
		c.first = v
		return true
	}
	l, ok := c.pages[i/page]
	if !ok {
		l = c.newPage(i / page)
	}
	l[i%page] = v
	return true
}

func (c *Cell) newPage(n int) []Value {
	if c.pages == nil {
		c.pages = map[int][]Value{}
	}
	l := make([]Value, min(page, c.size-n*page))
	for i := range l {
		l[i] = c.rest
	}
	c.pages[n] = l
	return l
}
