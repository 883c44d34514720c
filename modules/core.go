package modules

import (
	"slices"
	"strings"

	"kiln/api"
	"kiln/names"
)

// The elaborator copies its whole environment whenever that is told or set. So it is given only that for which a piece of the program can ask.

// below are the nodes below some others, and these, in no order that matters.
func (w *walker) below(roots ...int) []int {
	w.search++
	var l []int
	todo := slices.Clone(roots)
	for len(todo) > 0 {
		i := todo[len(todo)-1]
		todo = todo[:len(todo)-1]
		if w.met[i] == w.search {
			continue
		}
		w.met[i] = w.search
		l = append(l, i)
		todo = append(todo, w.nodes[i].Kids...)
	}
	return l
}

// wanted is what nodes ask for by long names.
type wanted struct {
	whole bool     // a structure that is opened: nobody knows what is asked for in it
	names []string // that are asked for in it, each once
	of    map[string]*wanted
}

// ask asks for a name in what is asked for.
func (a *wanted) ask(name string) *wanted {
	if a.of[name] == nil {
		if a.of == nil {
			a.of = map[string]*wanted{}
		}
		a.of[name] = &wanted{}
		a.names = append(a.names, name)
	}
	return a.of[name]
}

// asks is all for which nodes below some others can ask.
func (w *walker) asks(roots ...int) *wanted {
	all := &wanted{}
	for _, i := range w.below(roots...) {
		a := all
		for _, name := range w.path(i) {
			a = a.ask(name)
		}
		a.whole = a.whole || w.nodes[i].Kind == api.SName
	}
	return all
}

// path is the whole long name of a node.
func (w *walker) path(i int) []string {
	n := w.nodes[i]
	return append(slices.Clone(n.Path), n.Text)
}

// given is how many values and types the elaborator was given.
type given struct{ vals, types int }

// give gives the elaborator that for which nodes below some others can ask.
func (w *walker) give(roots ...int) given {
	var part api.Env
	all := w.asks(roots...)
	for _, name := range all.names {
		a := all.of[name]
		if e, where, ok := w.env.Val(name); ok {
			part.Vals = append(part.Vals, w.drawnEntry(where, e))
		}
		if t, where, ok := w.env.Typ(name); ok {
			part.Types = append(part.Types, w.drawnTyp(where, t))
		}
		if s, where, ok := w.env.Str(name); ok {
			part.Strs = append(part.Strs, w.partOf(s, where, a))
		}
	}
	w.Set(part)
	return given{len(part.Vals), len(part.Types)}
}

// partOf is a structure with what is asked for in it, and all that has a field: where something is hangs on these.
func (w *walker) partOf(s names.Str, where names.Where, a *wanted) api.Str {
	part := api.Str{Name: s.Name, At: s.At}
	if a.whole {
		part.Env = w.drawn(where, s.Env).LentThin()
		return part
	}
	values, structures := s.Env.Slots()
	for _, name := range values {
		part.Env.Vals = append(part.Env.Vals, api.Entry{Name: name, Is: api.SExn})
	}
	for _, name := range a.names {
		if e, ok := s.Val(name); ok {
			part.Env.Vals = append(part.Env.Vals, w.drawnEntry(where, e))
		}
		if t, ok := s.Typ(name); ok {
			part.Env.Types = append(part.Env.Types, w.drawnTyp(where, t))
		}
	}
	for _, name := range structures {
		inner := api.Str{Name: name}
		if next := a.of[name]; next != nil {
			sub, _ := s.Sub(name)
			inner = w.partOf(sub, where, next)
		}
		part.Env.Strs = append(part.Env.Strs, inner)
	}
	return part
}

// take takes over what the elaborator's environment has behind what it was given; or tells that this is more than can be told.
func (w *walker) take(g given) api.Errno {
	v := w.Env()
	if len(v.Vals) < g.vals || len(v.Types) < g.types {
		return api.ErrMany
	}
	for _, e := range v.Vals[g.vals:] {
		w.env.AddVal(e)
	}
	for _, t := range v.Types[g.types:] {
		w.env.AddTyp(t)
	}
	return api.OK
}

// core goes over declarations that are the elaborator's, and does something behind each. With a fault what those ahead of it put there is taken over, too.
func (w *walker) core(list []int, behind func(int)) {
	g, taken := w.give(list...), false
	defer func() {
		if !taken {
			w.take(g)
		}
	}()
	for at, i := range list {
		w.weigh(i)
		w.checkAt(w.Dec(i))
		if at == len(list)-1 {
			taken = true
			w.check(i, w.take(g))
		}
		behind(i)
	}
}

// weigh counts the places below a node that the elaborator goes over. One that has more by itself is refused there.
func (w *walker) weigh(i int) { w.count(i, min(w.weights[i], mostSteps/8)) }

// ty is the type of a node, where names stand for types.
func (w *walker) ty(i int, names []string, types []int) int {
	w.weigh(i)
	t, line, column, e := w.Ty(i, names, types)
	w.checkAt(line, column, e)
	return t
}

// ownLevel is the level of variables of signatures: above that of variables whose types are not known, since none of these can be one that stands for any type.
const ownLevel = 1

// newVars are the names of TVars, each with a new variable of types.
func (w *walker) newVars(tyvars []int) (names []string, vars []int) {
	for _, k := range tyvars {
		name := w.nodes[k].Text
		v, e := w.Book().Var(ownLevel, strings.HasPrefix(name, "''"), api.Any)
		w.check(k, e)
		names, vars = append(names, name), append(vars, v)
	}
	return names, vars
}

// text is the name of a node, to be kept.
func (w *walker) text(i int) string { return strings.Clone(w.nodes[i].Text) }
