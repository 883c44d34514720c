package tree

import (
	"slices"
	"strings"

	"kiln/api"
)

// parser goes through tokens from the left, and gives up at the first fault by a panic of it.
type parser struct {
	tokens []api.Token
	at     int // the next token
	open   int // phrases that count for MaxDepth, and have begun, but not ended
	scope  *scope
	nodes  []api.Node
	depths []int // of each node
}

// place is where a token stands.
type place struct {
	line, column int
}

// fault is why and where the parser gave up.
type fault struct {
	place
	errno api.Errno
}

// program is the root of all tokens' tree; or the fault.
func (p *parser) program() (root int, f fault) {
	defer func() {
		if r := recover(); r != nil {
			root, f = 0, r.(fault)
		}
	}()
	root = p.decs()
	if p.at < len(p.tokens) {
		p.refuse()
	}
	return root, fault{}
}

func (p *parser) giveUp(at place, e api.Errno) { panic(fault{at, e}) }

// refuse gives up, since nothing in the grammar has the next token here.
func (p *parser) refuse() { p.giveUp(p.here(), api.ErrSyntax) }

// here is the next token's place; behind all tokens the last one's.
func (p *parser) here() place {
	if len(p.tokens) == 0 {
		return place{}
	}
	t := p.tokens[min(p.at, len(p.tokens)-1)]
	return place{t.Line, t.Column}
}

// look is the token so many behind the next one; behind all tokens one that is like no other.
func (p *parser) look(ahead int) api.Token {
	if p.at+ahead < len(p.tokens) {
		return p.tokens[p.at+ahead]
	}
	return api.Token{}
}

// next takes a token.
func (p *parser) next() api.Token {
	t := p.look(0)
	p.at++
	return t
}

// isAt tells whether the token so many behind the next one is this reserved word or sign.
func (p *parser) isAt(ahead int, s string) bool {
	t := p.look(ahead)
	return t.Kind == api.TReserved && t.Text == s
}

func (p *parser) is(s string) bool { return p.isAt(0, s) }

// take takes this reserved word or sign, if it is next.
func (p *parser) take(s string) bool {
	if !p.is(s) {
		return false
	}
	p.at++
	return true
}

// want takes this reserved word or sign, which must be next.
func (p *parser) want(s string) {
	if !p.take(s) {
		p.refuse()
	}
}

// name takes a name that is no long one.
func (p *parser) name() string {
	if !isName(p.look(0)) {
		p.refuse()
	}
	return p.next().Text
}

// long takes any name.
func (p *parser) long() api.Token {
	if p.look(0).Kind != api.TName {
		p.refuse()
	}
	return p.next()
}

// label takes a record's label.
func (p *parser) label() string {
	t := p.look(0)
	if !isName(t) && !isPosition(t) {
		p.refuse()
	}
	return p.next().Text
}

// isPosition tells whether the token is an int that may be a label: digits without a zero ahead.
func isPosition(t api.Token) bool {
	return t.Kind == api.TInt && t.Text[0] >= '1' && t.Text[0] <= '9'
}

// phrase takes a phrase of a kind that counts for MaxDepth: what takes it is told.
func (p *parser) phrase(k phrases, take func() int) int {
	if !p.begins(k) {
		p.refuse()
	}
	if p.open == api.MaxDepth {
		p.giveUp(p.here(), api.ErrDeep)
	}
	p.open++
	n := take()
	p.open--
	return n
}

// list takes one or more of something, with a reserved word or sign between any two.
func (p *parser) list(between string, take func() int) []int {
	l := []int{take()}
	for p.take(between) {
		l = append(l, take())
	}
	return l
}

// group takes one or more of something, with `and` between, which make a node.
func (p *parser) group(at place, k api.NodeKind, take func() int) int {
	return p.put(at, k, "", p.list("and", take)...)
}

// enclosed takes any number of something, with commas between, and what ends them.
func (p *parser) enclosed(end string, take func() int) []int {
	if p.take(end) {
		return nil
	}
	l := p.list(",", take)
	p.want(end)
	return l
}

// put makes a node.
func (p *parser) put(at place, k api.NodeKind, text string, kids ...int) int {
	return p.putNamed(at, k, api.Token{Text: text}, kids...)
}

// putNamed makes a node with a token's Text and Path.
func (p *parser) putNamed(at place, k api.NodeKind, t api.Token, kids ...int) int {
	depth := 1
	for _, i := range kids {
		depth = max(depth, p.depths[i]+1)
	}
	if depth > api.MaxDepth {
		p.giveUp(at, api.ErrDeep)
	}
	if len(p.nodes) == api.MaxNodes {
		p.giveUp(at, api.ErrMany)
	}
	n := api.Node{Kind: k, Text: strings.Clone(t.Text), Kids: slices.Clone(kids), Line: at.line, Column: at.column}
	for _, s := range t.Path {
		n.Path = append(n.Path, strings.Clone(s))
	}
	p.nodes = append(p.nodes, n)
	p.depths = append(p.depths, depth)
	return len(p.nodes) - 1
}

// join makes a node that stands where the first of its kids stands.
func (p *parser) join(k api.NodeKind, kids ...int) int {
	return p.put(p.placeOf(kids[0]), k, "", kids...)
}

func (p *parser) placeOf(node int) place { return place{p.nodes[node].Line, p.nodes[node].Column} }
