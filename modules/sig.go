package modules

import (
	"slices"

	"kiln/api"
	"kiln/names"
)

// signature goes over a signature, and answers it without a name.
func (w *walker) signature(i int) sigma {
	w.count(i, 1)
	switch w.nodes[i].Kind {
	case api.GName:
		return w.sigName(i)
	case api.GWhere:
		return w.sigWhere(i)
	}
	return w.sigSpecs(i)
}

func (w *walker) sigName(i int) sigma {
	s, ok := w.sigs.Find(w.nodes[i].Text)
	if !ok {
		w.check(i, api.ErrUnbound)
	}
	v, flex := w.renew(i, w.drawn(names.Where{}, s.env), s.flex)
	return sigma{env: v, flex: flex}
}

// sigSpecs is a GSig.
func (w *walker) sigSpecs(i int) sigma {
	before := w.env.Mark()
	var flex []int
	list := w.nodes[i].Kids
	for len(list) > 0 {
		if run := w.values(list); len(run) > 0 {
			w.specValues(run)
			list = list[len(run):]
			continue
		}
		flex = append(flex, w.spec(list[0])...)
		list = list[1:]
	}
	v := w.env.Cut(before)
	w.keep(i, v)
	return sigma{env: v, flex: flex}
}

// values are the specifications ahead of values and exceptions: none of them names something for which the others could ask.
func (w *walker) values(list []int) []int {
	end := slices.IndexFunc(list, func(i int) bool { return w.nodes[i].Kind != api.XVal && w.nodes[i].Kind != api.XExn })
	if end < 0 {
		return list
	}
	return list[:end]
}

// specValues goes over specifications of values and exceptions.
func (w *walker) specValues(run []int) {
	w.give(run...)
	for _, i := range run {
		w.count(i, 1)
		for _, k := range w.nodes[i].Kids {
			e := api.Entry{Name: w.text(k), Is: api.SVar}
			if w.nodes[i].Kind == api.XVal {
				e.Scheme = w.valueScheme(k)
			} else {
				e.Is, e.Arg, e.Scheme.Type = api.SExn, len(w.nodes[k].Kids) > 0, w.exception(k)
			}
			w.env.AddVal(e)
		}
	}
}

// valueScheme is the scheme of an NCon of an XVal.
func (w *walker) valueScheme(i int) api.Scheme {
	names, vars := w.newVars(w.tyvars(i))
	t := w.ty(w.nodes[i].Kids[0], names, vars)
	return api.Scheme{Vars: w.Book().Free(t), Type: t}
}

// tyvars are TVars below a node, of each name one.
func (w *walker) tyvars(i int) []int {
	met := map[string]struct{}{}
	return slices.DeleteFunc(w.below(i), func(k int) bool {
		_, again := met[w.nodes[k].Text]
		if again || w.nodes[k].Kind != api.TVar {
			return true
		}
		met[w.nodes[k].Text] = struct{}{}
		return false
	})
}

// exception is the type of an NCon of an XExn.
func (w *walker) exception(i int) int {
	exn, e := w.Book().Apply(api.ConExn)
	w.check(i, e)
	if len(w.nodes[i].Kids) == 0 {
		return exn
	}
	t, e := w.Book().Arrow(w.ty(w.nodes[i].Kids[0], nil, nil), exn)
	w.check(i, e)
	return t
}

// spec goes over a specification of other things, and answers the type constructors of it that are flexible.
func (w *walker) spec(i int) []int {
	w.count(i, 1)
	switch w.nodes[i].Kind {
	case api.XType:
		return w.specTypes(i, api.Never)
	case api.XEq:
		return w.specTypes(i, api.If)
	case api.XStr:
		return w.specStr(i)
	}
	before := w.env.Mark()
	w.core([]int{i}, func(int) {})
	if w.nodes[i].Kind == api.XAlias {
		return nil
	}
	var flex []int
	for t := range w.env.Since(before).Types() {
		con, _ := w.constructor(t)
		flex = append(flex, con)
	}
	slices.Sort(flex) // as they were made
	return flex
}

// specTypes is an XType or an XEq.
func (w *walker) specTypes(i int, equal api.Equality) []int {
	var flex []int
	for _, k := range w.nodes[i].Kids {
		_, vars := w.newVars(w.nodes[k].Kids)
		con, e := w.Book().Con(w.nodes[k].Text, len(vars), equal)
		w.check(k, e)
		t, e := w.Book().Apply(con, vars...)
		w.check(k, e)
		w.env.AddTyp(api.Typ{Name: w.text(k), Scheme: api.Scheme{Vars: vars, Type: t}})
		flex = append(flex, con)
	}
	return flex
}

func (w *walker) specStr(i int) []int {
	var made []sigma
	for _, k := range w.nodes[i].Kids {
		made = append(made, w.sigma(k))
	}
	var flex []int
	for _, s := range made {
		w.env.AddStr(names.Str{Name: s.name, Env: s.env})
		flex = append(flex, s.flex...)
	}
	return flex
}

func (w *walker) sigWhere(i int) sigma {
	s, at := w.signature(w.nodes[i].Kids[0]), w.nodes[i].Kids[1]
	n := w.nodes[at]
	typ, _, ok := s.env.FindTyp(n.Path, n.Text)
	if !ok {
		w.check(at, api.ErrUnbound)
	}
	con, ok := w.constructor(typ)
	if !ok || !slices.Contains(s.flex, con) || w.isDatatype(s.env, con) {
		w.check(at, api.ErrWhere)
	}
	end := len(n.Kids) - 1
	names, vars := w.newVars(n.Kids[:end])
	w.give(at)
	by := api.Scheme{Vars: vars, Type: w.ty(n.Kids[end], names, vars)}
	if !w.mayBe(con, by) {
		w.check(at, api.ErrMatch)
	}
	s.env = w.realize(at, s.env, []int{con}, []api.Scheme{by})
	s.flex = slices.DeleteFunc(s.flex, func(c int) bool { return c == con })
	return s
}
