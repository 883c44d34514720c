package types

import (
	"strconv"
	"strings"

	"kiln/api"
)

// Text writes a type.
func (b *Book) Text(t int) (string, api.Errno) {
	switch {
	case !b.made():
		return "", api.ErrNil
	case !b.has(t):
		return "", api.ErrType
	case b.large(t):
		return "", api.ErrLong
	}
	vars := b.free(t)
	w := writer{Book: b, names: b.names(vars), places: make(map[int]int, len(vars))}
	for i, v := range vars {
		w.places[v] = i
	}
	w.write(t, alone)
	if w.full {
		return "", api.ErrLong
	}
	return w.text.String(), api.OK
}

// names are the names of variables.
func (b *Book) names(vars []int) []string {
	taken := map[string]struct{}{}
	for _, v := range vars {
		if c := b.cells[v]; c.rigid {
			taken[c.Rigid] = struct{}{}
		}
	}
	l := make([]string, len(vars))
	next := 0
	for i, v := range vars {
		c := b.cells[v]
		if c.rigid {
			l[i] = c.Rigid
			continue
		}
		for again := true; again; next++ {
			l[i] = nameOf(next, c.Equal)
			_, again = taken[l[i]]
		}
	}
	return l
}

// nameOf is the name of a place, from 0 on: 'a to 'z, 'a1 to 'z1 and so on.
func nameOf(place int, equal bool) string {
	name := "'" + string(rune('a'+place%26))
	if place >= 26 {
		name += strconv.Itoa(place / 26)
	}
	if equal {
		return "'" + name
	}
	return name
}

// around is what stands around a type that is written.
type around int

const (
	alone    around = iota // nothing from which an arrow or a tuple must be told apart
	ahead                  // an arrow, whose left side it is
	fastened               // a tuple, or a constructor whose argument it is
)

// writer writes a type's text.
type writer struct {
	*Book
	names  []string
	places map[int]int // of variables: the places of their names
	text   strings.Builder
	full   bool // the text would be too long
}

// put writes some texts, if there is room.
func (w *writer) put(texts ...string) {
	for _, s := range texts {
		w.full = w.full || len(s) > api.MaxText-w.text.Len()
		if !w.full {
			w.text.WriteString(s)
		}
	}
}

// write writes a type, in parentheses where it needs them.
func (w *writer) write(t int, where around) {
	c := w.at(t)
	if c.Kind == api.YArrow && where >= ahead || isTuple(c.Type) && where == fastened {
		w.put("(")
		defer w.put(")")
	}
	switch {
	case c.Kind == api.YVar && c.Open:
		w.put("{")
		w.fields(c.Type)
		if len(c.Labels) > 0 {
			w.put(", ")
		}
		w.put(".. ", w.name(t), "}")
	case c.Kind == api.YVar:
		w.put(w.name(t), strings.Repeat("#", int(c.Class)))
	case c.Kind == api.YCon:
		w.apply(c.Type)
	case c.Kind == api.YArrow:
		w.write(c.Args[0], ahead)
		w.put(" -> ")
		w.write(c.Args[1], alone)
	case len(c.Labels) == 0:
		w.put("unit")
	case isTuple(c.Type):
		w.list(" * ", fastened, c.Args)
	default:
		w.put("{")
		w.fields(c.Type)
		w.put("}")
	}
}

// name is the name of a variable.
func (w *writer) name(t int) string { return w.names[w.places[w.now(t)]] }

// fields writes labels with their types.
func (w *writer) fields(t api.Type) {
	for i, a := range t.Args {
		if i > 0 {
			w.put(", ")
		}
		w.put(t.Labels[i], " : ")
		w.write(a, alone)
	}
}

// apply writes a constructor behind its arguments.
func (w *writer) apply(t api.Type) {
	switch len(t.Args) {
	case 0:
	case 1:
		w.write(t.Args[0], fastened)
		w.put(" ")
	default:
		w.put("(")
		w.list(", ", fastened, t.Args)
		w.put(") ")
	}
	w.put(w.cons[t.Con].name)
}

// list writes types with something between any two.
func (w *writer) list(between string, where around, types []int) {
	for i, t := range types {
		if i > 0 {
			w.put(between)
		}
		w.write(t, where)
	}
}
