package modules

import (
	"slices"

	"kiln/api"
)

// root goes over the root's declarations.
func (w *walker) root(i int) {
	kids := w.nodes[i].Kids
	for w.decl < len(kids) {
		if run := w.run(kids[w.decl:]); len(run) > 0 {
			w.rootCore(run)
			continue
		}
		w.dec(kids[w.decl], true)
		w.decl++
		w.done = w.env.mark()
	}
}

// rootCore goes over some of the root's declarations that are the elaborator's. With a fault those ahead of it are done.
func (w *walker) rootCore(run []int) {
	defer func() { w.done = w.env.mark() }()
	w.core(run, func() { w.decl++ })
}

// decs goes over declarations that are not the root's.
func (w *walker) decs(list []int) {
	for len(list) > 0 {
		if run := w.run(list); len(run) > 0 {
			w.core(run, func() {})
			list = list[len(run):]
			continue
		}
		w.dec(list[0], false)
		list = list[1:]
	}
}

// run are the declarations ahead that the elaborator can go over one behind the other.
func (w *walker) run(list []int) []int {
	end := slices.IndexFunc(list, func(i int) bool {
		switch w.nodes[i].Kind {
		case api.DOpen, api.DLocal, api.DStr, api.DSig, api.DFct:
			return true
		}
		return false
	})
	if end < 0 {
		return list
	}
	return list[:end]
}

// dec goes over a declaration that is not the elaborator's alone.
func (w *walker) dec(i int, atRoot bool) {
	w.count(i, 1)
	switch w.nodes[i].Kind {
	case api.DOpen:
		w.decOpen(i)
	case api.DLocal:
		w.decLocal(i)
	case api.DStr:
		w.decStr(i)
	case api.DSig:
		w.only(i, atRoot)
		w.decSig(i)
	case api.DFct:
		w.only(i, atRoot)
		w.decFct(i)
	}
}

// only is for what may stand among the root's declarations alone.
func (w *walker) only(i int, atRoot bool) {
	if !atRoot {
		w.check(i, api.ErrModule)
	}
}

// decOpen counts the names that are put there, ahead of the elaborator's putting them there.
func (w *walker) decOpen(i int) {
	var opened environment
	for _, k := range w.nodes[i].Kids {
		s, ok := opened.str(w.path(k))
		if !ok {
			s, ok = w.env.str(w.path(k))
		}
		if !ok {
			break // the elaborator tells the fault
		}
		w.count(k, size(s.Env))
		opened.put(api.Env{Strs: s.Env.Strs})
	}
	w.core([]int{i}, func() {})
}

// path is the whole long name of a node.
func (w *walker) path(i int) []string {
	n := w.nodes[i]
	return append(slices.Clone(n.Path), n.Text)
}

func (w *walker) decLocal(i int) {
	kids := w.nodes[i].Kids
	before := w.env.mark()
	w.decs(w.nodes[kids[0]].Kids)
	between := w.env.mark()
	w.decs(w.nodes[kids[1]].Kids)
	second := w.env.cut(between)
	w.env.cut(before)
	w.env.put(second)
}

func (w *walker) decStr(i int) {
	var envs []api.Env
	for _, k := range w.nodes[i].Kids {
		envs = append(envs, w.structure(w.nodes[k].Kids[0]))
	}
	for at, k := range w.nodes[i].Kids {
		w.putStr(w.text(k), w.fresh(k), envs[at])
	}
}

// putStr puts a structure's name into the environment.
func (w *walker) putStr(name string, at api.Access, v api.Env) {
	w.env.put(api.Env{Strs: []api.Str{{Name: name, At: at, Env: v}}})
}

func (w *walker) decSig(i int) {
	var made []api.Sigma
	for _, k := range w.nodes[i].Kids {
		made = append(made, w.sigma(k))
	}
	for _, s := range made {
		w.sigs.add(s.Name, s)
	}
}

// sigma is the signature of an NSig, by its name.
func (w *walker) sigma(i int) api.Sigma {
	s := w.signature(w.nodes[i].Kids[0])
	s.Name = w.text(i)
	return s
}

func (w *walker) decFct(i int) {
	var made []api.Functor
	for _, k := range w.nodes[i].Kids {
		made = append(made, w.functor(k))
	}
	for _, f := range made {
		w.functors.add(f.Name, f)
	}
}

// functor is the functor of an NFct.
func (w *walker) functor(i int) api.Functor {
	kids := w.nodes[i].Kids
	f := api.Functor{Name: w.text(i), Param: w.sigma(kids[0])}
	before, from := w.env.mark(), w.constructors()
	w.putStr(f.Param.Name, w.fresh(kids[0]), f.Param.Env)
	f.Body = w.structure(kids[1])
	w.env.cut(before)
	for con := from; con < w.constructors(); con++ {
		f.New = append(f.New, con)
	}
	f.At = w.fresh(i)
	return f
}
