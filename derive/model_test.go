package derive

import (
	"fmt"
	"slices"
	"testing"

	"kiln/api"
	"kiln/tree"
)

// bush is a node of a bare tree, as the chapter's table says it.
type bush struct {
	api.Node
	kids []*bush
}

// model makes bare forms by going down, and putting each derived form into those of its line of the table, in turn.
type model struct {
	l    []api.Node
	done map[int]*bush
}

// of is the bare form of a node; nil: it is left out.
func (m model) of(i int) *bush {
	if b, ok := m.done[i]; ok {
		return b
	}
	n := m.l[i]
	var kids []*bush
	for _, k := range n.Kids {
		if m.l[k].Kind == api.DFix || n.Kind == api.DFix {
			continue
		}
		kids = append(kids, m.of(k))
	}
	b := m.form(n, kids)
	m.done[i] = b
	return b
}

// form is the bare form of a node with bare kids.
func (m model) form(n api.Node, kids []*bush) *bush {
	at := func(k api.NodeKind, text string, kids ...*bush) *bush {
		made := api.Node{Kind: k, Text: text, Line: n.Line, Column: n.Column}
		return m.form(made, kids)
	}
	record := func(k api.NodeKind, l []*bush) *bush {
		var fields []*bush
		for i, b := range l {
			fields = append(fields, at(api.NField, fmt.Sprint(i+1), b))
		}
		return at(k, "", fields...)
	}
	rule := func(pat, exp *bush) *bush { return at(api.NRule, "", pat, exp) }
	switch n.Kind {
	case api.ETuple:
		return record(api.ERecord, kids)
	case api.PTuple:
		return record(api.PRecord, kids)
	case api.TTuple:
		return record(api.TRec, kids)
	case api.ESelect:
		return at(api.EFn, "", rule(at(api.PRecord, "", at(api.NField, n.Text, at(api.PName, " 1")), at(api.PDots, "")), at(api.EName, " 1")))
	case api.EList:
		if len(kids) == 0 {
			return at(api.EName, "nil")
		}
		return at(api.EApp, "", at(api.EName, "::"), at(api.ETuple, "", kids[0], at(api.EList, "", kids[1:]...)))
	case api.PList:
		if len(kids) == 0 {
			return at(api.PName, "nil")
		}
		return at(api.PApp, "", at(api.PName, "::"), at(api.PTuple, "", kids[0], at(api.PList, "", kids[1:]...)))
	case api.ECase:
		return at(api.EApp, "", at(api.EFn, "", kids[1:]...), kids[0])
	case api.EIf:
		return at(api.ECase, "", kids[0], rule(at(api.PName, "true"), kids[1]), rule(at(api.PName, "false"), kids[2]))
	case api.EAnd:
		return at(api.EIf, "", kids[0], kids[1], at(api.EName, "false"))
	case api.EOr:
		return at(api.EIf, "", kids[0], at(api.EName, "true"), kids[1])
	case api.ESeq:
		if len(kids) == 1 {
			return kids[0]
		}
		return at(api.ECase, "", kids[0], rule(at(api.PWild, ""), at(api.ESeq, "", kids[1:]...)))
	case api.EWhile:
		call := func() *bush { return at(api.EApp, "", at(api.EName, " w"), at(api.ETuple, "")) }
		body := at(api.EIf, "", kids[0], at(api.ESeq, "", kids[1], call()), at(api.ETuple, ""))
		bind := at(api.NBind, "", at(api.PName, " w"), at(api.EFn, "", rule(at(api.PTuple, ""), body)))
		return at(api.ELet, "", at(api.NDecs, "", at(api.DRec, "", bind)), call())
	case api.ELet:
		if len(kids) > 2 {
			kids = []*bush{kids[0], at(api.ESeq, "", kids[1:]...)}
		}
	case api.DFun:
		return at(api.DRec, "", kids...)
	case api.NFun:
		clause := m.l[n.Kids[0]]
		count := len(m.l[clause.Kids[0]].Kids)
		return at(api.NBind, "", at(api.PName, clause.Text), m.function(at, 1, count, kids))
	case api.NClause:
		if len(kids) == 3 {
			return rule(kids[0], at(api.ETyped, "", kids[1], kids[2]))
		}
		return rule(kids[0], kids[1])
	case api.NPats:
		if len(kids) == 1 {
			return kids[0]
		}
		return at(api.PTuple, "", kids...)
	case api.DFix:
		return at(api.NDecs, "")
	}
	return &bush{n, kids}
}

// function is the function of clauses of so many patterns, from one of them on.
func (m model) function(at func(api.NodeKind, string, ...*bush) *bush, from, count int, rules []*bush) *bush {
	if count == 1 {
		return at(api.EFn, "", rules...)
	}
	if from <= count {
		return at(api.EFn, "", at(api.NRule, "", at(api.PName, fmt.Sprintf(" %d", from)), m.function(at, from+1, count, rules)))
	}
	var names []*bush
	for i := range count {
		names = append(names, at(api.EName, fmt.Sprintf(" %d", i+1)))
	}
	return at(api.ECase, "", append([]*bush{at(api.ETuple, "", names...)}, rules...)...)
}

// matches tells why a tree is not the model's, each node once where the model has it once.
func matches(l []api.Node, i int, b *bush, to map[int]*bush, from map[*bush]int) string {
	if other, ok := to[i]; ok {
		if other != b {
			return fmt.Sprintf("%s stands for two", label(l[i]))
		}
		return ""
	}
	if _, ok := from[b]; ok {
		return fmt.Sprintf("%s stands there twice", label(b.Node))
	}
	to[i], from[b] = b, i
	n := l[i]
	if n.Kind != b.Kind || n.Text != b.Text || !slices.Equal(n.Path, b.Path) || n.Line != b.Line || n.Column != b.Column || len(n.Kids) != len(b.kids) {
		return fmt.Sprintf("%s at %d, %d with %d kids; want %s at %d, %d with %d", label(n), n.Line, n.Column, len(n.Kids), label(b.Node), b.Line, b.Column, len(b.kids))
	}
	for k := range n.Kids {
		if s := matches(l, n.Kids[k], b.kids[k], to, from); s != "" {
			return s
		}
	}
	return ""
}

// trouble is a fault, by what the chapter says: of which node, where.
type trouble struct {
	at    int
	errno api.Errno
}

// critic finds faults by holding each thing against each other.
type critic struct {
	l       []api.Node
	below   []int
	parents map[int][]int
}

func newCritic(l []api.Node, root int) critic {
	c := critic{l, tree.Below(l, root), map[int][]int{}}
	for _, i := range c.below {
		for _, k := range l[i].Kids {
			c.parents[k] = append(c.parents[k], i)
		}
	}
	return c
}

// in tells whether a node is one of these kinds.
func (c critic) in(i int, kinds ...api.NodeKind) bool { return slices.Contains(kinds, c.l[i].Kind) }

// of tells whether a node stands in one of these kinds.
func (c critic) of(i int, kinds ...api.NodeKind) bool {
	return slices.ContainsFunc(c.parents[i], func(p int) bool { return c.in(p, kinds...) })
}

// named is a node with a name that it has.
type named struct {
	at   int
	name string
}

// twice is the first node that has a name which one ahead has.
func twice(l []named) []trouble {
	for i := range l {
		for k := range i {
			if l[i].name == l[k].name {
				return []trouble{{l[i].at, api.ErrTwice}}
			}
		}
	}
	return nil
}

// texts are kids of these kinds, by their Texts.
func (c critic) texts(i int, kinds ...api.NodeKind) []named {
	var l []named
	for _, k := range c.l[i].Kids {
		if c.in(k, kinds...) {
			l = append(l, named{k, c.l[k].Text})
		}
	}
	return l
}

// plain is what a DRec's pattern binds.
func (c critic) plain(p int) (string, bool) {
	switch n := c.l[p]; n.Kind {
	case api.PTyped:
		return c.plain(n.Kids[0])
	case api.PName:
		return n.Text, len(n.Path) == 0
	}
	return "", false
}

func (c critic) isFn(e int) bool {
	return c.in(e, api.EFn) || c.in(e, api.ETyped) && c.isFn(c.l[e].Kids[0])
}

// faultsOf are the faults of a node, in the chapter's order.
func (c critic) faultsOf(i int) []trouble {
	n := c.l[i]
	var all []trouble
	if c.in(i, api.ERecord, api.PRecord, api.TRec) {
		all = append(all, twice(c.texts(i, api.NField))...)
	}
	if c.in(i, api.DRec) {
		var names []named
		for _, b := range n.Kids {
			name, ok := c.plain(c.l[b].Kids[0])
			if !ok || !c.isFn(c.l[b].Kids[1]) {
				all = append(all, trouble{b, api.ErrRec})
			}
			names = append(names, named{b, name})
		}
		all = append(all, twice(names)...)
	}
	if c.in(i, api.DFun) {
		var names []named
		for _, f := range n.Kids {
			names = append(names, named{f, c.l[c.l[f].Kids[0]].Text})
		}
		all = append(all, twice(names)...)
	}
	if c.in(i, api.NFun) {
		first := c.l[n.Kids[0]]
		for _, k := range n.Kids {
			if c.l[k].Text != first.Text || len(c.l[c.l[k].Kids[0]].Kids) != len(c.l[first.Kids[0]].Kids) {
				all = append(all, trouble{k, api.ErrClause})
			}
		}
	}
	if c.in(i, api.DType, api.DData, api.XType, api.XEq, api.XAlias, api.XData) {
		all = append(all, twice(c.texts(i, api.NTybind, api.NDatbind, api.NCon))...)
	}
	if c.in(i, api.DData, api.XData) {
		var cons []named
		for _, k := range n.Kids {
			cons = append(cons, c.texts(k, api.NCon)...)
		}
		all = append(all, twice(cons)...)
	}
	if c.in(i, api.DExn, api.XExn, api.XVal, api.DStr, api.DSig, api.DFct, api.XStr) {
		all = append(all, twice(c.texts(i, api.NCon, api.NSame, api.NStr, api.NSig, api.NFct))...)
	}
	all = append(all, c.tyvars(i)...)
	if c.in(i, api.GSig) {
		all = append(all, c.specs(i)...)
	}
	return append(all, c.bound(i)...)
}

// tyvars are the faults of type variables.
func (c critic) tyvars(i int) []trouble {
	kids := c.l[i].Kids
	var ahead []named
	var behind []int
	switch {
	case c.in(i, api.NTybind, api.NWhere):
		for _, k := range kids[:len(kids)-1] {
			ahead = append(ahead, named{k, c.l[k].Text})
		}
		behind = kids[len(kids)-1:]
	case c.in(i, api.NDatbind):
		ahead = c.texts(i, api.TVar)
		behind = kids[len(ahead):]
	case c.in(i, api.NCon) && c.of(i, api.XType, api.XEq):
		ahead = c.texts(i, api.TVar)
	}
	all := twice(ahead)
	for _, k := range tree.Below(c.l, behind...) {
		if c.in(k, api.TVar) && !slices.ContainsFunc(ahead, func(n named) bool { return n.name == c.l[k].Text }) {
			all = append(all, trouble{k, api.ErrTyvar})
		}
	}
	return all
}

// specs are the faults of a signature's names: the first one from the left.
func (c critic) specs(i int) []trouble {
	var l []named
	for _, s := range c.l[i].Kids {
		for _, k := range c.l[s].Kids {
			sort := "type "
			if c.in(s, api.XVal, api.XExn) {
				sort = "value "
			} else if c.in(s, api.XStr) {
				sort = "structure "
			}
			l = append(l, named{k, sort + c.l[k].Text})
			if c.in(s, api.XData) {
				for _, x := range c.texts(k, api.NCon) {
					l = append(l, named{x.at, "value " + x.name})
				}
			}
		}
	}
	return twice(l)
}

// bound are the faults of names that may not be bound.
func (c critic) bound(i int) []trouble {
	n := c.l[i]
	name, it := n.Text, true
	switch n.Kind {
	case api.NCon:
		ofData := slices.ContainsFunc(c.parents[i], func(p int) bool { return c.in(p, api.NDatbind) && c.of(p, api.DData, api.XData) })
		if !ofData && !c.of(i, api.DExn, api.XExn) {
			return nil
		}
	case api.NSame:
	case api.NBind:
		if !c.of(i, api.DRec) {
			return nil
		}
		s, ok := c.plain(n.Kids[0])
		if !ok {
			return nil
		}
		name, it = s, false
	case api.NFun:
		name, it = c.l[n.Kids[0]].Text, false
	default:
		return nil
	}
	if slices.Contains([]string{"true", "false", "nil", "::", "ref"}, name) || it && name == "it" {
		return []trouble{{i, api.ErrBound}}
	}
	return nil
}

// first is the first fault of a tree.
func (c critic) first() (trouble, bool) {
	for _, i := range c.below {
		if l := c.faultsOf(i); len(l) > 0 {
			return l[0], true
		}
	}
	return trouble{}, false
}

// holdModel holds Derive of a tree against the models; it answers the error.
func holdModel(t *testing.T, l []api.Node, root int, what string) api.Errno {
	t.Helper()
	before := clone(l)
	m, top, line, column, e := Derive(l, root)
	if !sameNodes(l, before) {
		t.Fatalf("%s: Derive changed the tree", what)
	}
	f, ok := newCritic(l, root).first()
	if ok {
		want := l[f.at]
		if len(m) != 0 || top != 0 || e != f.errno || line != want.Line || column != want.Column {
			t.Fatalf("%s: Derive: %d nodes, %d, %d, %d, %d; want %d at %s, %d, %d", what, len(m), top, line, column, e, f.errno, label(want), want.Line, want.Column)
		}
		return e
	}
	if e != api.OK || line != 0 || column != 0 || !Bare(m, top) || len(tree.Below(m, top)) != len(m) {
		t.Fatalf("%s: Derive: %d nodes, %d, %d, %d, %d", what, len(m), top, line, column, e)
	}
	to := map[int]*bush{}
	if s := matches(m, top, model{l, map[int]*bush{}}.of(root), to, map[*bush]int{}); s != "" || len(to) != len(m) {
		t.Fatalf("%s: Derive: %s; %d nodes", what, s, len(m))
	}
	again, peak, _, _, e := Derive(m, top) // P6.4
	if e != api.OK || !tree.Same(m, top, again, peak) || len(again) != len(m) {
		t.Fatalf("%s: Derive of the bare form: %d nodes, %d; want %d", what, len(again), e, len(m))
	}
	return api.OK
}

// P6.1 to P6.4: random trees, and each node of some as the root.
func TestGrown(t *testing.T) {
	met := map[api.NodeKind]int{}
	ended := map[api.Errno]int{}
	for seed := range int64(8000) {
		l, root := grown(seed)
		if e := tree.Check(l, root); e != api.OK {
			t.Fatalf("seed %d: Check: %d", seed, e)
		}
		e := holdModel(t, l, root, fmt.Sprintf("seed %d", seed))
		ended[e]++
		if e == api.OK {
			for _, i := range tree.Below(l, root) {
				met[l[i].Kind]++
			}
		}
		for i := 0; seed%20 == 0 && i < len(l); i++ {
			if len(l[i].Kids) > 0 || isDerived(l[i]) {
				holdModel(t, l, i, fmt.Sprintf("seed %d, root %d", seed, i))
			}
		}
	}
	for _, k := range []api.Errno{api.OK, api.ErrTwice, api.ErrRec, api.ErrClause, api.ErrBound, api.ErrTyvar} {
		if ended[k] < 100 {
			t.Errorf("only %d ended by %d", ended[k], k)
		}
	}
	for k, name := range kindNames {
		if met[k] < 100 {
			t.Errorf("only %d of %s", met[k], name)
		}
	}
}

// P6.6: other nodes of the list say nothing.
func TestOtherNodes(t *testing.T) {
	for seed := range int64(1000) {
		l, root := grown(seed)
		if seed%2 == 0 {
			root -= int(seed/2) % len(l)
		}
		m, top, line, column, e := Derive(l, root)
		wild := clone(l)
		below := tree.Below(l, root)
		for i := range wild {
			if _, ok := slices.BinarySearch(below, i); !ok {
				wild[i] = api.Node{Kind: 77, Kids: []int{-5, i, 1 << 40}}
			}
		}
		wild = append(wild, api.Node{Kind: api.DRec, Kids: []int{root, 0}}, api.Node{Kind: api.XType, Kids: below})
		k, peak, otherLine, otherColumn, otherErr := Derive(wild, root)
		if !sameNodes(m, k) || top != peak || line != otherLine || column != otherColumn || e != otherErr {
			t.Fatalf("seed %d: other nodes change the answer", seed)
		}
	}
}
