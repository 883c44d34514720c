package match

import (
	"cmp"
	"slices"
	"strconv"
	"strings"

	"kiln/api"
)

// mark is what a test looks for.
type mark struct {
	kind   api.ValKind
	n      int
	number int64
	text   string
}

// markOf is what a pattern looks for that is not of a record, and not for all values.
func markOf(x api.Pat) mark {
	m := mark{kind: api.WCon}
	switch x.Kind {
	case api.QExn:
		m.kind = api.WExn
		fallthrough
	case api.QCon:
		m.n = x.N
	case api.QInt:
		m = mark{kind: api.WInt, number: x.Int}
	case api.QStr:
		m = mark{kind: api.WStr, text: x.Text}
	}
	return m
}

// key is a mark as a value without parts.
func (m mark) key() api.Datum {
	return api.Datum{Kind: m.kind, N: m.n, Int: m.number, Text: strings.Clone(m.text)}
}

// form is what a pattern asks of a value, whatever its variables are, without what all values have: a test with its mark, or a record, whose kind of mark is none.
type form struct {
	mark  mark
	parts []asked // what is asked of its parts, by rising places
	tests int     // how many tests there are, written out
	size  int     // how many forms it is, written out
}

// asked is what is asked of a part.
type asked struct {
	place int
	form  int
}

// anything is the form of what asks nothing.
const anything = 0

func (f *form) isTest() bool { return f.mark.kind != 0 }

// forms are forms, each once.
type forms struct {
	all  []form
	have map[string]int
}

// former makes the forms of the patterns of a match that holds.
type former struct {
	*forms
	stand [][]int // the shapes for which each pattern stands
	is    [][]int // the form that it has for each
	loose bool    // a constructor that has no others beside it is no test: it is there for sure
}

// formsOf are the forms of a match that holds, and which one each row has.
func formsOf(m api.Match, loose bool) (*forms, []int) {
	w := patterns{pats: m.Pats, shapes: m.Shapes, keep: true}
	w.hold(m.Rows, m.Shape)
	b := former{&forms{make([]form, 1), map[string]int{}}, w.wanted, make([][]int, len(m.Pats)), loose}
	for p, l := range b.stand {
		b.is[p] = make([]int, len(l))
		for i, s := range l {
			b.is[p][i] = b.pattern(m.Pats[p], m.Shapes[s], s)
		}
	}
	rows := make([]int, len(m.Rows))
	for i, p := range m.Rows {
		rows[i] = b.of(p, m.Shape)
	}
	return b.forms, rows
}

// of is the form of a pattern for a shape, if it is known.
func (b *former) of(p, shape int) int {
	i, _ := slices.BinarySearch(b.stand[p], shape)
	return b.is[p][i]
}

// pattern is the form of a pattern for a shape, if those of lower ones are known.
func (b *former) pattern(x api.Pat, h api.Shape, shape int) int {
	var m mark
	args := h.Args
	switch x.Kind {
	case api.QAny:
		return anything
	case api.QBind:
		if len(x.Args) == 0 {
			return anything
		}
		return b.of(x.Args[0], shape)
	case api.QCon, api.QExn:
		args = argShape(h, x.N)
		if b.loose && h.Kind == api.HData && len(h.Args) == 1 {
			break
		}
		fallthrough
	case api.QInt, api.QStr:
		m = markOf(x)
	}
	var parts []asked
	for i, a := range x.Args {
		if f := b.of(a, args[i]); f != anything {
			parts = append(parts, asked{i, f})
		}
	}
	return b.add(m, parts)
}

// add is the number of a form, which is made if it is not there.
func (b *forms) add(m mark, parts []asked) int {
	if m.kind == 0 && len(parts) == 0 {
		return anything
	}
	name := nameOf(m, parts)
	if n, ok := b.have[name]; ok {
		return n
	}
	f := form{mark: m, parts: parts, size: 1}
	if f.isTest() {
		f.tests = 1
	}
	for _, p := range parts {
		f.tests = sum(f.tests, b.all[p.form].tests)
		f.size = sum(f.size, b.all[p.form].size)
	}
	n := len(b.all)
	b.all = append(b.all, f)
	b.have[name] = n
	return n
}

// nameOf is a text that no other form has.
func nameOf(m mark, parts []asked) string {
	var s []byte
	for _, n := range []int64{int64(m.kind), int64(m.n), m.number, int64(len(m.text))} {
		s = append(strconv.AppendInt(s, n, 36), ' ')
	}
	s = append(s, m.text...)
	for _, p := range parts {
		s = append(strconv.AppendInt(s, int64(p.place), 36), ' ')
		s = append(strconv.AppendInt(s, int64(p.form), 36), ' ')
	}
	return string(s)
}

// part is what a form asks at a place.
func (b *forms) part(f, place int) int {
	l := b.all[f].parts
	if len(l) > 8 { // few are found sooner one by one
		i, _ := slices.BinarySearchFunc(l, place, func(a asked, place int) int { return cmp.Compare(a.place, place) })
		l = l[i:]
	}
	for _, a := range l {
		if a.place >= place {
			if a.place == place {
				return a.form
			}
			break
		}
	}
	return anything
}

// at is what a form asks at a path, if the constructors on the way are those that it asks for.
func (b *forms) at(f int, path []int) int {
	for _, place := range path {
		if f == anything {
			break
		}
		f = b.part(f, place)
	}
	return f
}
