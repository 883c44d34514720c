package derive

import (
	"slices"
	"strings"

	"kiln/api"
)

// form is what becomes of a kind of node: a function that makes its bare form of those of its kids, and answers that one's number (none: nothing is left).
type form struct {
	build func(b *builder, n api.Node) int
}

// forms are those of all kinds.
func forms() [api.XStr + 1]form {
	table := [api.XStr + 1]form{
		api.ESelect: {(*builder).selector},
		api.ETuple:  {tuple(api.ERecord)},
		api.EList:   {list(api.EApp, api.EName, api.ERecord)},
		api.ESeq:    {func(b *builder, n api.Node) int { return b.sequence(b.kids(n)...) }},
		api.ELet:    {(*builder).let},
		api.EAnd:    {(*builder).andalso},
		api.EOr:     {(*builder).orelse},
		api.EIf:     {(*builder).ifThen},
		api.EWhile:  {(*builder).while},
		api.ECase:   {(*builder).caseOf},
		api.PTuple:  {tuple(api.PRecord)},
		api.PList:   {list(api.PApp, api.PName, api.PRecord)},
		api.TTuple:  {tuple(api.TRec)},
		api.DFun:    {func(b *builder, n api.Node) int { return b.put(api.DRec, "", b.kids(n)...) }},
		api.NFun:    {(*builder).clauses},
		api.NClause: {(*builder).clause},
		api.NPats:   {(*builder).arguments},
		api.DFix:    {func(*builder, api.Node) int { return none }},
	}
	for k := range table {
		if table[k].build == nil {
			table[k].build = func(b *builder, n api.Node) int { return b.keep(n, b.kids(n)...) }
		}
	}
	return table
}

// tuple is the form of tuples that are records of this kind.
func tuple(record api.NodeKind) func(*builder, api.Node) int {
	return func(b *builder, n api.Node) int { return b.put(record, "", b.fields(b.kids(n)...)...) }
}

// list is the form of lists that are made of these kinds.
func list(app, name, record api.NodeKind) func(*builder, api.Node) int {
	return func(b *builder, n api.Node) int {
		rest := b.put(name, "nil")
		for _, first := range slices.Backward(b.kids(n)) {
			rest = b.put(app, "", b.put(name, "::"), b.put(record, "", b.fields(first, rest)...))
		}
		return rest
	}
}

func (b *builder) selector(n api.Node) int {
	field := b.put(api.NField, strings.Clone(n.Text), b.put(api.PName, parameter(1)))
	record := b.put(api.PRecord, "", field, b.put(api.PDots, ""))
	return b.function(record, b.put(api.EName, parameter(1)))
}

func (b *builder) let(n api.Node) int {
	kids := b.kids(n)
	return b.keep(n, kids[0], b.sequence(kids[1:]...))
}

func (b *builder) andalso(n api.Node) int {
	kids := b.kids(n)
	return b.choose(kids[0], kids[1], b.put(api.EName, "false"))
}

func (b *builder) orelse(n api.Node) int {
	kids := b.kids(n)
	return b.choose(kids[0], b.put(api.EName, "true"), kids[1])
}

func (b *builder) ifThen(n api.Node) int {
	kids := b.kids(n)
	return b.choose(kids[0], kids[1], kids[2])
}

func (b *builder) caseOf(n api.Node) int {
	kids := b.kids(n)
	return b.match(kids[0], kids[1:]...)
}

// loop is the name of the function that a while is, that no program writes.
const loop = " w"

func (b *builder) while(n api.Node) int {
	kids := b.kids(n)
	again := b.sequence(kids[1], b.callLoop())
	body := b.choose(kids[0], again, b.put(api.ERecord, ""))
	bind := b.put(api.NBind, "", b.put(api.PName, loop), b.function(b.put(api.PRecord, ""), body))
	decs := b.put(api.NDecs, "", b.put(api.DRec, "", bind))
	return b.put(api.ELet, "", decs, b.callLoop())
}

func (b *builder) callLoop() int {
	return b.put(api.EApp, "", b.put(api.EName, loop), b.put(api.ERecord, ""))
}

// clauses makes the binding of a function's name.
func (b *builder) clauses(n api.Node) int {
	name := b.put(api.PName, strings.Clone(b.from[n.Kids[0]].Text))
	rules := b.kids(n)
	if count := patterns(b.from, n.Kids[0]); count > 1 {
		return b.put(api.NBind, "", name, b.curried(count, rules))
	}
	return b.put(api.NBind, "", name, b.put(api.EFn, "", rules...))
}

// curried makes functions within functions, and in the last one the case of all of their arguments.
func (b *builder) curried(count int, rules []int) int {
	var names []int
	for i := range count {
		names = append(names, b.put(api.EName, parameter(i+1)))
	}
	body := b.match(b.put(api.ERecord, "", b.fields(names...)...), rules...)
	for i := count; i > 0; i-- {
		body = b.function(b.put(api.PName, parameter(i)), body)
	}
	return body
}

// clause makes a clause's rule.
func (b *builder) clause(n api.Node) int {
	kids := b.kids(n)
	exp := kids[1]
	if len(kids) > 2 {
		exp = b.put(api.ETyped, "", exp, kids[2])
	}
	return b.put(api.NRule, "", kids[0], exp)
}

// arguments makes one pattern of a clause's.
func (b *builder) arguments(n api.Node) int {
	kids := b.kids(n)
	if len(kids) == 1 {
		return kids[0]
	}
	return b.put(api.PRecord, "", b.fields(kids...)...)
}
