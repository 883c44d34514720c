package modules

import (
	"slices"
	"strings"

	"kiln/api"
)

// The elaborator copies its whole environment whenever that is told or set. So it is given only those names for which a piece of the program can ask.

// below are the nodes below some others, and these, in no order that matters.
func (w *walker) below(roots ...int) []int {
	w.search++
	var l []int
	todo := slices.Clone(roots)
	for len(todo) > 0 {
		i := todo[len(todo)-1]
		todo = todo[:len(todo)-1]
		if w.met[i] == w.search {
			continue
		}
		w.met[i] = w.search
		l = append(l, i)
		todo = append(todo, w.nodes[i].Kids...)
	}
	return l
}

// give gives the elaborator the names for which nodes below some others can ask, and answers how far its environment goes then.
func (w *walker) give(roots ...int) mark {
	met := map[string]struct{}{}
	var names []string
	for _, i := range w.below(roots...) {
		name := w.nodes[i].Text
		if path := w.nodes[i].Path; len(path) > 0 {
			name = path[0]
		}
		if _, again := met[name]; !again {
			met[name] = struct{}{}
			names = append(names, name)
		}
	}
	part := w.env.some(names)
	w.Set(part)
	return mark{len(part.Vals), len(part.Types), len(part.Strs)}
}

// take takes over what the elaborator's environment has behind a mark.
func (w *walker) take(m mark) {
	v := w.Env()
	w.env.put(api.Env{Vals: v.Vals[m.vals:], Types: v.Types[m.types:], Strs: v.Strs[m.strs:]})
}

// core goes over declarations that are the elaborator's, and does something behind each. With a fault what those ahead of it put there is taken over, too.
func (w *walker) core(list []int, behind func()) {
	m := w.give(list...)
	defer func() { w.take(m) }()
	for _, i := range list {
		w.weigh(i)
		w.checkAt(w.Dec(i))
		behind()
	}
}

// weigh counts the places below a node that the elaborator goes over. One that has more by itself is refused there.
func (w *walker) weigh(i int) { w.count(i, min(w.weights[i], mostSteps/8)) }

// ty is the type of a node, where names stand for types.
func (w *walker) ty(i int, names []string, types []int) int {
	w.weigh(i)
	t, line, column, e := w.Ty(i, names, types)
	w.checkAt(line, column, e)
	return t
}

// ownLevel is the level of variables of signatures: above that of variables whose types are not known, since none of these can be one that stands for any type.
const ownLevel = 1

// newVars are the names of TVars, each with a new variable of types.
func (w *walker) newVars(tyvars []int) (names []string, vars []int) {
	for _, k := range tyvars {
		name := w.nodes[k].Text
		v, e := w.Book().Var(ownLevel, strings.HasPrefix(name, "''"), api.Any)
		w.check(k, e)
		names, vars = append(names, name), append(vars, v)
	}
	return names, vars
}

// text is the name of a node, to be kept.
func (w *walker) text(i int) string { return strings.Clone(w.nodes[i].Text) }
