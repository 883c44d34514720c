package modules

import (
	"slices"

	"kiln/api"
	"kiln/names"
)

// root goes over the root's declarations.
func (w *walker) root(i int) {
	kids := w.nodes[i].Kids
	for w.decl < len(kids) {
		if run := w.run(kids[w.decl:]); len(run) > 0 {
			w.rootCore(run)
			continue
		}
		w.rootDec(kids[w.decl])
		w.decl++
		w.done = w.env.Mark()
	}
}

// rootCore goes over some of the root's declarations that are the elaborator's. With a fault those ahead of it are done.
func (w *walker) rootCore(run []int) {
	defer func() { w.done = w.env.Mark() }()
	w.former = former{} // the elaborator itself goes back
	w.core(run, func(i int) {
		w.mark(i)
		w.decl++
	})
}

// rootDec goes over one of the root's declarations that is not the elaborator's alone.
func (w *walker) rootDec(i int) {
	w.enter(i)
	if !w.turns[i] {
		w.dec(i, true)
		return
	}
	w.borrow(i)
	w.dec(i, true)
	w.repay()
}

// decs goes over declarations that are not the root's.
func (w *walker) decs(list []int) {
	for len(list) > 0 {
		if run := w.run(list); len(run) > 0 {
			w.core(run, func(int) {})
			list = list[len(run):]
			continue
		}
		w.dec(list[0], false)
		list = list[1:]
	}
}

// run are the declarations ahead that the elaborator can go over one behind the other.
func (w *walker) run(list []int) []int {
	end := slices.IndexFunc(list, func(i int) bool {
		switch w.nodes[i].Kind {
		case api.DOpen, api.DLocal, api.DStr, api.DSig, api.DFct:
			return true
		}
		return false
	})
	if end < 0 {
		return list
	}
	return list[:end]
}

// dec goes over a declaration that is not the elaborator's alone.
func (w *walker) dec(i int, atRoot bool) {
	w.count(i, 1)
	switch w.nodes[i].Kind {
	case api.DOpen:
		w.decOpen(i)
	case api.DLocal:
		w.decLocal(i)
	case api.DStr:
		w.decStr(i)
	case api.DSig:
		w.only(i, atRoot)
		w.decSig(i)
	case api.DFct:
		w.only(i, atRoot)
		w.decFct(i)
	}
}

// only is for what may stand among the root's declarations alone.
func (w *walker) only(i int, atRoot bool) {
	if !atRoot {
		w.check(i, api.ErrModule)
	}
}

// decOpen does what the elaborator would do: that one would have to be given all that the structures say.
func (w *walker) decOpen(i int) {
	for _, k := range w.nodes[i].Kids {
		s, where, ok := w.env.FindStr(w.path(k))
		if !ok {
			w.check(k, api.ErrUnbound)
		}
		s.Env = w.drawn(where, s.Env)
		w.env.Open(s)
	}
}

func (w *walker) decLocal(i int) {
	kids := w.nodes[i].Kids
	before := w.env.Mark()
	w.decs(w.nodes[kids[0]].Kids)
	between := w.env.Mark()
	w.decs(w.nodes[kids[1]].Kids)
	second := w.env.Cut(between)
	w.env.Drop(before)
	w.env.Put(second)
}

func (w *walker) decStr(i int) {
	var envs []*names.Env
	for _, k := range w.nodes[i].Kids {
		envs = append(envs, w.structure(w.nodes[k].Kids[0]))
	}
	for at, k := range w.nodes[i].Kids {
		w.env.AddStr(names.Str{Name: w.text(k), At: w.fresh(k), Env: envs[at]})
	}
}

func (w *walker) decSig(i int) {
	var made []sigma
	for _, k := range w.nodes[i].Kids {
		made = append(made, w.sigma(k))
	}
	for _, s := range made {
		w.sigs.Add(s.name, s)
	}
}

// sigma is the signature of an NSig, by its name.
func (w *walker) sigma(i int) sigma {
	s := w.signature(w.nodes[i].Kids[0])
	s.name = w.text(i)
	return s
}

func (w *walker) decFct(i int) {
	var made []functor
	for _, k := range w.nodes[i].Kids {
		made = append(made, w.functor(k))
	}
	for _, f := range made {
		w.functors.Add(f.name, f)
	}
}

// functor is the functor of an NFct.
func (w *walker) functor(i int) functor {
	kids := w.nodes[i].Kids
	f := functor{name: w.text(i), param: w.sigma(kids[0])}
	before, from := w.env.Mark(), w.constructors()
	w.env.AddStr(names.Str{Name: f.param.name, At: w.fresh(kids[0]), Env: f.param.env})
	f.body = w.structure(kids[1])
	w.env.Drop(before)
	for con := from; con < w.constructors(); con++ {
		f.anew = append(f.anew, con)
	}
	f.at = w.fresh(i)
	return f
}
