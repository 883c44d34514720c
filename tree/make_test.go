package tree

import (
	"fmt"
	"math/rand"
	"testing"

	"kiln/api"
	"kiln/lex"
)

// sprout is a node of a tree that is made together with its tokens, as the chapter says that Parse makes it.
type sprout struct {
	api.Node
	kids []*sprout
	emit []*sprout // in which order it and what is ahead of it stand in the list, if it is not that of the kids
	done bool
	at   int
}

// list puts a tree's nodes behind others.
func (s *sprout) list(l []api.Node) []api.Node {
	if s.done {
		return l
	}
	first := s.emit
	if first == nil {
		first = s.kids
	}
	for _, k := range first {
		l = k.list(l)
	}
	s.done, s.at = true, len(l)
	for _, k := range s.kids {
		s.Kids = append(s.Kids, k.at)
	}
	return append(l, s.Node)
}

// maker makes a program: its tokens, each at a place of its own, and its tree.
type maker struct {
	*rand.Rand
	tokens []api.Token
	fuel   int // how much may be made besides the least
}

// put is the next token; it answers its place.
func (m *maker) put(k api.TokenKind, text string, path ...string) place {
	at := place{len(m.tokens)/10 + 1, len(m.tokens)*7 + 3}
	m.tokens = append(m.tokens, api.Token{Kind: k, Text: text, Path: path, Line: at.line, Column: at.column})
	return at
}

func (m *maker) word(s string) place { return m.put(api.TReserved, s) }

// next is the place that the next token will have.
func (m *maker) next() place { return place{len(m.tokens)/10 + 1, len(m.tokens)*7 + 3} }

// chance is true once in n times, while there is fuel.
func (m *maker) chance(n int) bool {
	m.fuel--
	return m.fuel > 0 && m.Intn(n) == 0
}

// one of these.
func (m *maker) pick(l ...string) string { return l[m.Intn(len(l))] }

// node at a place.
func node(at place, k api.NodeKind, text string, kids ...*sprout) *sprout {
	return &sprout{Node: api.Node{Kind: k, Text: text, Line: at.line, Column: at.column}, kids: kids}
}

// first is a node at the place of its first kid.
func first(k api.NodeKind, kids ...*sprout) *sprout { return node(kids[0].place(), k, "", kids...) }

func (s *sprout) place() place { return place{s.Line, s.Column} }

// some makes one or more, with a reserved word or sign between.
func (m *maker) some(between string, one func(last bool) *sprout) []*sprout {
	more := 0
	for more < 3 && m.chance(3) {
		more++
	}
	var l []*sprout
	for i := range more + 1 {
		if i > 0 {
			m.word(between)
		}
		l = append(l, one(i == more))
	}
	return l
}

// each leaves out whether it is the last one.
func each(one func() *sprout) func(bool) *sprout { return func(bool) *sprout { return one() } }

// long is a name, perhaps a long one, as a node of this kind.
func (m *maker) long(k api.NodeKind, names ...string) *sprout {
	text := m.pick(names...)
	var path []string
	for m.chance(4) && len(path) < 3 {
		path = append(path, m.pick("A", "B", "List"))
	}
	n := node(m.next(), k, text)
	n.Path = path
	m.put(api.TName, text, path...)
	return n
}

// plain is a plain name: its text and place.
func (m *maker) plain() (string, place) {
	at := m.next()
	if m.chance(4) {
		m.word("op")
		s := m.pick("x", "+", "::", "=", "f")
		if s == "=" {
			m.word(s)
		} else {
			m.put(api.TName, s)
		}
		return s, at
	}
	s := m.pick("x", "y", "f", "C", "!", "==")
	m.put(api.TName, s)
	return s, at
}

// valueName is a plain or a long name.
func (m *maker) valueName(k api.NodeKind) *sprout {
	if !m.chance(4) {
		s, at := m.plain()
		return node(at, k, s)
	}
	n := node(m.next(), k, m.pick("x", "+", "::"))
	n.Path = []string{"A", "B"}[:1+m.Intn(2)]
	m.put(api.TName, n.Text, n.Path...)
	return n
}

// constant is a constant of a pattern or an expression.
func (m *maker) constant(kinds int) *sprout {
	at := m.next()
	switch m.Intn(kinds) {
	case 0:
		s := m.pick("0", "12", "~5", "0x1F")
		m.put(api.TInt, s)
		return node(at, api.NInt, s)
	case 1:
		s := m.pick("", "a\n", "\"")
		m.put(api.TString, s)
		return node(at, api.NString, s)
	case 2:
		m.put(api.TChar, "c")
		return node(at, api.NChar, "c")
	}
	m.put(api.TReal, "1.5E~3")
	return node(at, api.NReal, "1.5E~3")
}

// mixed makes sides with infix names between them, put together as the model says.
func (m *maker) mixed(k [3]api.NodeKind, side func() *sprout, names []operator) *sprout {
	var l []operator
	for len(l) < 5 && m.chance(3) {
		l = append(l, names[m.Intn(len(names))])
		if conflict(l) >= 0 {
			l = l[:len(l)-1]
			break
		}
	}
	sides := []*sprout{side()}
	var places []place
	for _, o := range l {
		places = append(places, m.next())
		if o.name == "=" {
			m.word("=")
		} else {
			m.put(api.TName, o.name)
		}
		sides = append(sides, side())
	}
	return together(k, sides, l, places)
}

// together is grouped, of sprouts.
func together(k [3]api.NodeKind, sides []*sprout, l []operator, places []place) *sprout {
	if len(l) == 0 {
		return sides[0]
	}
	at := last(l)
	left, right := together(k, sides[:at+1], l[:at], places[:at]), together(k, sides[at+1:], l[at+1:], places[at+1:])
	name, tuple := node(places[at], k[1], l[at].name), node(places[at], k[2], "", left, right)
	both := node(places[at], k[0], "", name, tuple)
	both.emit = []*sprout{left, right, name, tuple}
	return both
}

// in makes something between two reserved signs.
func (m *maker) in(open, end string, one func() []*sprout) []*sprout {
	m.word(open)
	l := one()
	m.word(end)
	return l
}

// many makes any number, with commas between.
func (m *maker) many(one func() *sprout) func() []*sprout {
	return func() []*sprout {
		if !m.chance(2) {
			return nil
		}
		return m.some(",", each(one))
	}
}

func (m *maker) label() (string, place) {
	at := m.next()
	if m.chance(3) {
		s := m.pick("1", "20")
		m.put(api.TInt, s)
		return s, at
	}
	s := m.pick("a", "b", "+", "*")
	m.put(api.TName, s)
	return s, at
}

// labelled is a field with a sign behind its label.
func (m *maker) labelled(sign string, one func() *sprout) func() *sprout {
	return func() *sprout {
		s, at := m.label()
		m.word(sign)
		return node(at, api.NField, s, one())
	}
}

// Expressions. What is closed can take nothing that stands behind it.

func (m *maker) exp(closed bool) *sprout {
	handle := !closed && m.chance(8)
	e := m.or(closed || handle)
	if handle {
		m.word("handle")
		e = first(api.EHandle, append([]*sprout{e}, m.match()...)...)
	}
	return e
}

func (m *maker) or(closed bool) *sprout {
	l := m.some("orelse", func(end bool) *sprout { return m.and(closed || !end) })
	return leftward(api.EOr, l)
}

func (m *maker) and(closed bool) *sprout {
	l := m.some("andalso", func(end bool) *sprout { return m.operand(closed || !end) })
	return leftward(api.EAnd, l)
}

func leftward(k api.NodeKind, l []*sprout) *sprout {
	n := l[0]
	for _, s := range l[1:] {
		n = first(k, n, s)
	}
	return n
}

func (m *maker) match() []*sprout {
	return m.some("|", func(end bool) *sprout {
		p := m.pat()
		m.word("=>")
		return first(api.NRule, p, m.exp(!end))
	})
}

func (m *maker) open() *sprout { return m.exp(false) }

func (m *maker) operand(closed bool) *sprout {
	if !closed && m.chance(5) {
		at := m.next()
		switch m.Intn(5) {
		case 0:
			a := m.behind("if", m.open)
			b := m.behind("then", m.open)
			return node(at, api.EIf, "", a, b, m.behind("else", m.open))
		case 1:
			a := m.behind("while", m.open)
			return node(at, api.EWhile, "", a, m.behind("do", m.open))
		case 2:
			a := m.behind("case", m.open)
			m.word("of")
			return node(at, api.ECase, "", append([]*sprout{a}, m.match()...)...)
		case 3:
			m.word("fn")
			return node(at, api.EFn, "", m.match()...)
		}
		return node(at, api.ERaise, "", m.behind("raise", m.open))
	}
	e := m.mixed([3]api.NodeKind{api.EApp, api.EName, api.ETuple}, m.app, firstOperators())
	return m.typed(api.ETyped, e)
}

func (m *maker) typed(k api.NodeKind, n *sprout) *sprout {
	for m.chance(6) {
		n = first(k, n, m.behind(":", m.ty))
	}
	return n
}

// behind makes something behind a reserved word or sign.
func (m *maker) behind(word string, one func() *sprout) *sprout {
	m.word(word)
	return one()
}

func (m *maker) app() *sprout {
	n := m.atexp()
	for m.chance(4) {
		n = first(api.EApp, n, m.atexp())
	}
	return n
}

func (m *maker) atexp() *sprout {
	at := m.next()
	if !m.chance(2) {
		return m.valueName(api.EName)
	}
	switch m.Intn(7) {
	case 0:
		return m.constant(4)
	case 1:
		m.word("#")
		s, _ := m.label()
		return node(at, api.ESelect, s)
	case 2:
		return node(at, api.ERecord, "", m.in("{", "}", m.many(m.labelled("=", m.open)))...)
	case 3:
		return node(at, api.EList, "", m.in("[", "]", m.many(m.open))...)
	case 4:
		m.word("let")
		d := m.decs()
		m.word("in")
		l := m.some(";", each(m.open))
		m.word("end")
		return node(at, api.ELet, "", append([]*sprout{d}, l...)...)
	case 5:
		if l := m.in("(", ")", func() []*sprout { return m.some(";", each(m.open)) }); len(l) > 1 {
			return node(at, api.ESeq, "", l...)
		} else {
			return l[0]
		}
	}
	if l := m.in("(", ")", m.many(m.open)); len(l) != 1 {
		return node(at, api.ETuple, "", l...)
	} else {
		return l[0]
	}
}

// Patterns.

func (m *maker) pat() *sprout {
	if m.chance(6) {
		s, at := m.plain()
		return m.layered(s, at, true)
	}
	from := len(m.tokens)
	n := m.mixed([3]api.NodeKind{api.PApp, api.PName, api.PTuple}, m.apppat, firstPatterns())
	used := len(m.tokens) - from
	plain := n.Kind == api.PName && len(n.Path) == 0 && (used == 1 || used == 2 && m.tokens[from].Text == "op")
	typed := m.typed(api.PTyped, n)
	for t := typed; plain && t.Kind == api.PTyped; t = t.kids[0] {
		if t.kids[0] == n { // only the type of a name is ahead of it
			t.emit = []*sprout{t.kids[1], n}
		}
	}
	return typed
}

// firstPatterns are the infix names at first, but `=`.
func firstPatterns() []operator {
	var l []operator
	for _, o := range firstOperators() {
		if o.name != "=" {
			l = append(l, o)
		}
	}
	return l
}

// layered is what stands behind a name, with `as` or not.
func (m *maker) layered(s string, at place, as bool) *sprout {
	var t *sprout
	if m.chance(2) {
		t = m.behind(":", m.ty)
	}
	n := node(at, api.PName, s)
	if as {
		n = m.behind("as", m.pat)
	}
	if t != nil {
		typed := first(api.PTyped, n, t)
		typed.emit = []*sprout{t, n}
		n = typed
	}
	if as {
		return node(at, api.PAs, s, n)
	}
	return n
}

func (m *maker) apppat() *sprout {
	if m.chance(3) {
		c := m.valueName(api.PName)
		return first(api.PApp, c, m.atpat())
	}
	return m.atpat()
}

func (m *maker) atpat() *sprout {
	at := m.next()
	if !m.chance(2) {
		return m.valueName(api.PName)
	}
	switch m.Intn(5) {
	case 0:
		m.word("_")
		return node(at, api.PWild, "")
	case 1:
		return m.constant(3)
	case 2:
		return node(at, api.PList, "", m.in("[", "]", m.many(m.pat))...)
	case 3:
		return node(at, api.PRecord, "", m.in("{", "}", m.fields)...)
	}
	if l := m.in("(", ")", m.many(m.pat)); len(l) != 1 {
		return node(at, api.PTuple, "", l...)
	} else {
		return l[0]
	}
}

func (m *maker) fields() []*sprout {
	l := m.many(m.field)()
	if m.chance(3) {
		if len(l) > 0 {
			m.word(",")
		}
		at := m.word("...")
		l = append(l, node(at, api.PDots, ""))
	}
	return l
}

func (m *maker) field() *sprout {
	if m.chance(2) {
		return m.labelled("=", m.pat)()
	}
	s := m.pick("a", "b", "+")
	at := m.put(api.TName, s)
	return node(at, api.NField, s, m.layered(s, at, m.chance(3)))
}

// Types.

func (m *maker) ty() *sprout {
	t := m.product()
	if m.chance(4) {
		return first(api.TArrow, t, m.behind("->", m.ty))
	}
	return t
}

func (m *maker) product() *sprout {
	l := []*sprout{m.applied()}
	for m.chance(5) {
		m.put(api.TName, "*")
		l = append(l, m.applied())
	}
	if len(l) == 1 {
		return l[0]
	}
	return first(api.TTuple, l...)
}

func (m *maker) applied() *sprout {
	t := m.atty()
	for m.chance(5) {
		t = m.con(t)
	}
	return t
}

// con is a type's name behind its arguments.
func (m *maker) con(args ...*sprout) *sprout {
	t := m.long(api.TCon, "list", "ref", "+")
	t.kids = args
	t.Line, t.Column = args[0].Line, args[0].Column
	return t
}

func (m *maker) atty() *sprout {
	at := m.next()
	switch {
	case m.chance(6):
		return node(at, api.TRec, "", m.in("{", "}", m.many(m.labelled(":", m.ty)))...)
	case m.chance(6):
		l := m.in("(", ")", func() []*sprout { return m.some(",", each(m.ty)) })
		if len(l) == 1 {
			return l[0]
		}
		return m.con(l...)
	case m.chance(3):
		return m.tyvar()
	}
	return m.long(api.TCon, "int", "t", "-")
}

func (m *maker) tyvar() *sprout {
	s := m.pick("'a", "''b", "'")
	return node(m.put(api.TTyvar, s), api.TVar, s)
}

// Declarations.

func (m *maker) decs() *sprout {
	at := m.next()
	var l []*sprout
	for m.chance(2) {
		if m.chance(3) {
			m.word(";")
		} else {
			l = append(l, m.dec())
		}
	}
	return node(at, api.NDecs, "", l...)
}

func (m *maker) dec() *sprout {
	at := m.next()
	switch m.Intn(12) {
	case 0:
		m.word("val")
		return node(at, api.DVal, "", m.some("and", each(m.bind))...)
	case 1:
		m.word("val")
		m.word("rec")
		return node(at, api.DRec, "", m.some("and", each(m.bind))...)
	case 2:
		m.word("fun")
		return node(at, api.DFun, "", m.some("and", each(m.function))...)
	case 3:
		m.word("type")
		return node(at, api.DType, "", m.some("and", each(m.tybind))...)
	case 4:
		m.word("datatype")
		return node(at, api.DData, "", m.some("and", each(m.datbind))...)
	case 5:
		m.word("datatype")
		s := m.pick("t", "+")
		m.put(api.TName, s)
		m.word("=")
		m.word("datatype")
		return node(at, api.DCopy, s, m.long(api.TCon, "u", "*"))
	case 6:
		m.word("exception")
		return node(at, api.DExn, "", m.some("and", each(m.exbind))...)
	case 7:
		m.word("local")
		a := m.decs()
		m.word("in")
		b := m.decs()
		m.word("end")
		return node(at, api.DLocal, "", a, b)
	case 8:
		m.word("open")
		l := []*sprout{m.long(api.SName, "A", "*")}
		for m.chance(2) {
			l = append(l, m.long(api.SName, "A", "*"))
		}
		return node(at, api.DOpen, "", l...)
	case 9:
		return m.directive()
	}
	return m.module()
}

// directive turns names that stand nowhere else.
func (m *maker) directive() *sprout {
	text := m.pick("infix", "infixr", "nonfix")
	at := m.word(text)
	if text != "nonfix" {
		digit := "0"
		if m.chance(2) {
			digit = m.pick("0", "5", "9")
			m.put(api.TInt, digit)
		}
		text += " " + digit
	}
	var l []*sprout
	for i := 0; i == 0 || m.chance(2); i++ {
		l = append(l, node(m.put(api.TName, "q"), api.PName, "q"))
	}
	return node(at, api.DFix, text, l...)
}

func (m *maker) module() *sprout {
	at := m.next()
	switch m.Intn(3) {
	case 0:
		m.word("structure")
		return node(at, api.DStr, "", m.some("and", each(func() *sprout {
			s := m.pick("S", "T")
			at := m.put(api.TName, s)
			return node(at, api.NStr, s, m.ascribed())
		}))...)
	case 1:
		m.word("signature")
		return node(at, api.DSig, "", m.some("and", each(func() *sprout { return m.namedSig("=") }))...)
	}
	m.word("functor")
	return node(at, api.DFct, "", m.some("and", each(func() *sprout {
		s := m.pick("F", "G")
		at := m.put(api.TName, s)
		m.word("(")
		x := m.namedSig(":")
		m.word(")")
		return node(at, api.NFct, s, x, m.ascribed())
	}))...)
}

func (m *maker) bind() *sprout {
	p := m.pat()
	m.word("=")
	return first(api.NBind, p, m.open())
}

func (m *maker) function() *sprout {
	at := m.next()
	return node(at, api.NFun, "", m.some("|", func(end bool) *sprout { return m.clause(!end) })...)
}

func (m *maker) clause(closed bool) *sprout {
	at := m.next()
	take := m.prefixHead
	if m.chance(2) {
		take = m.infixHead
	}
	name, pats := take()
	var t *sprout
	if m.chance(4) {
		t = m.behind(":", m.ty)
	}
	m.word("=")
	e := m.exp(closed)
	n := node(at, api.NClause, name, pats, e)
	if t != nil {
		n.kids = append(n.kids, t)
		n.emit = []*sprout{pats, t, e}
	}
	return n
}

func (m *maker) prefixHead() (string, *sprout) {
	name, _ := m.plain()
	l := []*sprout{m.atpat()}
	for m.chance(3) {
		l = append(l, m.atpat())
	}
	return name, first(api.NPats, l...)
}

func (m *maker) infixHead() (string, *sprout) {
	from := len(m.tokens)
	left := m.atpat()
	for m.tokens[from].Text == "op" { // that would begin the other kind of clause
		m.tokens = m.tokens[:from]
		left = m.atpat()
	}
	name := firstPatterns()[m.Intn(17)].name
	at := m.put(api.TName, name)
	return name, node(at, api.NPats, "", node(at, api.PTuple, "", left, m.atpat()))
}

// head is type variables and a name.
func (m *maker) head(names ...string) ([]*sprout, string, place) {
	at := m.next()
	var l []*sprout
	if m.chance(3) {
		l = m.in("(", ")", func() []*sprout { return m.some(",", each(m.tyvar)) })
	} else if m.chance(3) {
		l = []*sprout{m.tyvar()}
	}
	s := m.pick(names...)
	m.put(api.TName, s)
	return l, s, at
}

func (m *maker) tybind() *sprout {
	l, s, at := m.head("t", "u", "*")
	return node(at, api.NTybind, s, append(l, m.behind("=", m.ty))...)
}

func (m *maker) datbind() *sprout {
	l, s, at := m.head("t", "u")
	m.word("=")
	return node(at, api.NDatbind, s, append(l, m.some("|", each(func() *sprout { return m.datacon(true) }))...)...)
}

// datacon is a constructor's or an exception's name, with a type or not.
func (m *maker) datacon(op bool) *sprout {
	at := m.next()
	if op && m.chance(3) {
		m.word("op")
	}
	s := m.pick("A", "B", "::")
	m.put(api.TName, s)
	if m.chance(2) {
		return node(at, api.NCon, s, m.behind("of", m.ty))
	}
	return node(at, api.NCon, s)
}

func (m *maker) exbind() *sprout {
	if m.chance(2) {
		return m.datacon(true)
	}
	at := m.next()
	if m.chance(3) {
		m.word("op")
	}
	m.put(api.TName, "E")
	m.word("=")
	if m.chance(3) {
		m.word("op")
	}
	return node(at, api.NSame, "E", m.long(api.EName, "F", "+"))
}

// Modules.

// ascribed is a structure that is bound, with a signature ahead of it or not.
func (m *maker) ascribed() *sprout {
	k, sign := api.STrans, ":"
	if m.Intn(2) == 0 {
		k, sign = api.SOpaque, ":>"
	}
	if !m.chance(2) {
		return m.behind("=", m.str)
	}
	g := m.behind(sign, m.sig)
	s := m.behind("=", m.str)
	n := first(k, s, g)
	n.emit = []*sprout{g, s}
	return n
}

func (m *maker) str() *sprout {
	n := m.str1()
	for m.chance(4) {
		if m.Intn(2) == 0 {
			n = first(api.STrans, n, m.behind(":", m.sig))
		} else {
			n = first(api.SOpaque, n, m.behind(":>", m.sig))
		}
	}
	return n
}

func (m *maker) str1() *sprout {
	at := m.next()
	switch {
	case m.chance(3):
		m.word("struct")
		d := m.decs()
		m.word("end")
		return node(at, api.SStruct, "", d)
	case m.chance(5):
		m.put(api.TName, "F")
		m.word("(")
		s := m.str()
		m.word(")")
		return node(at, api.SApp, "F", s)
	case m.chance(5):
		m.put(api.TName, "F")
		m.word("(")
		s := first(api.SStruct, m.decs())
		m.word(")")
		return node(at, api.SApp, "F", s)
	case m.chance(5):
		m.word("let")
		d := m.decs()
		m.word("in")
		s := m.str()
		m.word("end")
		return node(at, api.SLet, "", d, s)
	}
	return m.long(api.SName, "A", "+")
}

func (m *maker) namedSig(sign string) *sprout {
	s := m.pick("S", "*")
	at := m.put(api.TName, s)
	return node(at, api.NSig, s, m.behind(sign, m.sig))
}

func (m *maker) sig() *sprout {
	n := m.sig1()
	for m.chance(4) {
		m.word("where")
		at := m.word("type")
		var l []*sprout
		if m.chance(2) {
			l = []*sprout{m.tyvar()}
		}
		w := m.long(api.NWhere, "t", "*")
		w.Line, w.Column = at.line, at.column
		w.kids = append(l, m.behind("=", m.ty))
		n = first(api.GWhere, n, w)
	}
	return n
}

func (m *maker) sig1() *sprout {
	at := m.next()
	if m.chance(2) {
		m.put(api.TName, "G")
		return node(at, api.GName, "G")
	}
	m.word("sig")
	var l []*sprout
	for m.chance(2) {
		if m.chance(4) {
			m.word(";")
		} else {
			l = append(l, m.spec())
		}
	}
	m.word("end")
	return node(at, api.GSig, "", l...)
}

func (m *maker) spec() *sprout {
	at := m.next()
	typespec := func() *sprout {
		l, s, at := m.head("t", "*")
		return node(at, api.NCon, s, l...)
	}
	switch m.Intn(7) {
	case 0:
		m.word("val")
		return node(at, api.XVal, "", m.some("and", each(func() *sprout {
			s := m.pick("x", "+")
			at := m.put(api.TName, s)
			return node(at, api.NCon, s, m.behind(":", m.ty))
		}))...)
	case 1:
		m.word("type")
		return node(at, api.XType, "", m.some("and", each(typespec))...)
	case 2:
		m.word("type")
		return node(at, api.XAlias, "", m.some("and", each(m.tybind))...)
	case 3:
		m.word("eqtype")
		return node(at, api.XEq, "", m.some("and", each(typespec))...)
	case 4:
		m.word("datatype")
		return node(at, api.XData, "", m.some("and", each(m.datbind))...)
	case 5:
		m.word("exception")
		return node(at, api.XExn, "", m.some("and", each(func() *sprout { return m.datacon(false) }))...)
	}
	m.word("structure")
	return node(at, api.XStr, "", m.some("and", each(func() *sprout { return m.namedSig(":") }))...)
}

// made is a random program: its tokens and its nodes.
func made(seed int64, fuel int) ([]api.Token, []api.Node) {
	m := &maker{Rand: rand.New(rand.NewSource(seed)), fuel: fuel}
	at := m.next()
	var l []*sprout
	for m.fuel > 0 {
		l = append(l, m.dec())
	}
	return m.tokens, node(at, api.NDecs, "", l...).list(nil)
}

// P5.1, P5.5: random programs have the trees that they were made with, node by node and place by place; those pass Check, and are the same when the tokens were written and read.
func TestMade(t *testing.T) {
	met := map[api.NodeKind]int{}
	for seed := range int64(6000) {
		tokens, want := made(seed, 20+int(seed%200))
		l, root, line, column, e := Parse(tokens)
		text, _ := lex.Join(tokens)
		if line != 0 || column != 0 || e != api.OK || root != len(l)-1 {
			t.Fatalf("Parse(%s): root %d of %d, %d, %d, %d", text, root, len(l), line, column, e)
		}
		if !sameNodes(l, want) {
			t.Fatalf("Parse(%s) =\n%s\n%s; want\n%s\n%s", text, show(l, root), places(l), show(want, len(want)-1), places(want))
		}
		for _, n := range l {
			met[n.Kind]++
		}
		if e := Check(l, root); e != api.OK || len(Below(l, root)) != len(l) {
			t.Fatalf("Check of %s: %d", text, e)
		}
		again, _, _, _ := lex.Scan(text)
		if b, k, _, _, e := Parse(again); e != api.OK || !Same(l, root, b, k) {
			t.Fatalf("Parse(%s) when read again: %d", text, e)
		}
	}
	for k, name := range kindNames {
		if met[k] < 100 {
			t.Errorf("only %d of %s", met[k], name)
		}
	}
}

// places is all nodes with their places and kids.
func places(l []api.Node) string {
	s := ""
	for i, n := range l {
		s += fmt.Sprintf("%d %s %v %d:%d, ", i, label(n), n.Kids, n.Line, n.Column)
	}
	return s
}
