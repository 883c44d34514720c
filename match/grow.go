package match

import (
	"slices"

	"kiln/api"
)

// tooMuch is what making something too large panics with.
type tooMuch struct{}

// mostWords is how many words of 8 bytes the paths of a tree may have: nothing is promised of answers of more than 2^31 - 1 bytes.
const mostWords = 1 << 28

// grower makes a decision tree.
type grower struct {
	*scene
	reader *reader
	from   []int // each row's pattern
	rows   []int // each row's form
	named  map[int]names
	nodes  []api.Choice
	begun  int
	words  int
}

// names are a row's variables.
type names struct {
	list  *list[variable]
	words int
}

// variable is a variable, with the path to what it stands for.
type variable struct {
	n    int
	path *list[int]
}

// planted is a decision tree of a match that holds, and its root.
func planted(m api.Match) (l []api.Choice, root int, e api.Errno) {
	defer func() {
		if r := recover(); r != nil {
			_ = r.(tooMuch) // nothing else panics here
			l, root, e = nil, 0, api.ErrMany
		}
	}()
	s, rows := newScene(m, false)
	g := grower{scene: s, reader: newReader(m.Pats), from: m.Rows, rows: rows, named: map[int]names{}}
	var live []int
	for i, f := range rows {
		live = append(live, i)
		if f == anything { // nobody reaches the others
			break
		}
	}
	root = g.grow(live)
	return g.nodes, root, api.OK
}

// begin counts a node ahead of those below it, so that the making of a tree that is too large ends soon.
func (g *grower) begin(words int) {
	g.begun++
	g.words += words
	if g.begun > api.MaxNodes || g.words > mostWords {
		panic(tooMuch{})
	}
}

func (g *grower) add(c api.Choice) int {
	g.nodes = append(g.nodes, c)
	return len(g.nodes) - 1
}

// fork is a test on the way to a row's leaf: its first key is the one that the row asks for.
type fork struct {
	api.Choice
	at *spot
}

// grow makes the tree of the rows that are left, in order. Nothing is tested but what the first one asks for, so that each test either leads to its leaf or leaves it behind.
func (g *grower) grow(live []int) int {
	if len(live) == 0 {
		g.begin(0)
		return g.add(api.Choice{Kind: api.CFail})
	}
	row := live[0]
	var way []fork
	var todo *list[task]
	if g.rows[row] != anything {
		todo = todo.with(task{form: g.rows[row], at: g.root})
	}
	for {
		t, behind, ok := g.next(todo)
		if !ok {
			break
		}
		todo = behind.with(t)
		f, stay := g.fork(g.best(t.at, behind, live), live)
		way, live = append(way, f), stay
	}
	n := g.leaf(row)
	for _, f := range slices.Backward(way) {
		f.at.known = false
		f.Next[0] = n
		n = g.add(f.Choice)
	}
	return n
}

// farthest is how far, times how many rows are left, one looks for the best test.
const farthest = 4096

// best is where the test is for which most rows ask: each that asks is left behind on all sides but one, while those that do not ask are on all of them. The first one is known, and what is to be done behind it.
func (g *grower) best(first *spot, todo *list[task], live []int) *spot {
	if last := len(live) - 1; g.rows[live[last]] == anything {
		live = live[:last]
	}
	if len(live) == 1 {
		return first
	}
	best, most := first, g.asking(first, live)
	for range min(farthest/16, farthest/len(live)) {
		if todo == nil || most == len(live) {
			break
		}
		t, behind, ok := g.step(todo)
		todo = behind
		if !ok {
			continue
		}
		if n := g.asking(t.at, live); n > most {
			best, most = t.at, n
		}
	}
	return best
}

// asking is how many rows ask for something at a spot.
func (g *grower) asking(at *spot, live []int) int {
	path := at.path.slice()
	n := 0
	for _, row := range live {
		if g.at(g.rows[row], path) != anything {
			n++
		}
	}
	return n
}

// fork is the test at a spot, with all that is below it but the first key's side, whose rows are told; what is there is known from here on.
func (g *grower) fork(at *spot, live []int) (fork, []int) {
	path := at.path.slice()
	g.begin(len(path))
	s := sidesOf(g.forms, path, live, func(row int) int { return g.rows[row] })
	if len(s.others) == len(live)-1 { // the first row alone asks: so a row that is asked again and again takes no memory
		s.asking[0], s.others = live, live[1:]
	}
	c := api.Choice{Kind: api.CTest, Path: path, Else: -1}
	at.known = true
	for i, m := range s.marks {
		next := 0
		if i > 0 {
			next = g.grow(joined(s.asking[i], s.others))
		}
		c.Keys = append(c.Keys, m.key())
		c.Next = append(c.Next, next)
	}
	if !g.isAll(at, s.marks) {
		c.Else = g.grow(s.others)
	}
	if len(s.asking[0]) == len(live) {
		return fork{c, at}, live
	}
	return fork{c, at}, joined(s.asking[0], s.others)
}

// joined are the rows of two lists, in order.
func joined(a, b []int) []int {
	if len(b) == 0 {
		return a
	}
	l := slices.Concat(a, b)
	slices.Sort(l)
	return l
}

// leaf makes a row's leaf.
func (g *grower) leaf(row int) int {
	v, ok := g.named[row]
	if !ok {
		v = g.variables(row)
		g.named[row] = v
	}
	g.begin(v.words)
	c := api.Choice{Kind: api.CLeaf, Row: row}
	for _, x := range v.list.slice() {
		c.Vars = append(c.Vars, x.n)
		c.Paths = append(c.Paths, x.path.slice())
	}
	return g.add(c)
}

// variables are a row's variables, if they are not too many.
func (g *grower) variables(row int) names {
	var v names
	f := finder[*list[int]]{
		reader: g.reader,
		down:   (*list[int]).with,
		found: func(n int, at *list[int]) {
			v.list = v.list.with(variable{n, at})
			if v.words += 4 + at.size(); v.words > mostWords {
				panic(tooMuch{})
			}
		},
	}
	f.find(g.from[row], nil)
	return v
}
