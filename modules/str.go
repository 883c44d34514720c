package modules

import (
	"kiln/api"
	"kiln/names"
)

// structure goes over a structure, and answers its environment.
func (w *walker) structure(i int) *names.Env {
	w.count(i, 1)
	switch w.nodes[i].Kind {
	case api.SName:
		return w.strName(i)
	case api.SStruct:
		return w.strStruct(i)
	case api.SLet:
		return w.strLet(i)
	case api.SApp:
		return w.strApp(i)
	}
	return w.strTyped(i)
}

func (w *walker) strName(i int) *names.Env {
	s, where, ok := w.env.FindStr(w.path(i))
	if !ok {
		w.check(i, api.ErrUnbound)
	}
	w.noteAt(i, s.At)
	return w.drawn(where, s.Env)
}

func (w *walker) strStruct(i int) *names.Env {
	before := w.env.Mark()
	w.decs(w.nodes[w.nodes[i].Kids[0]].Kids)
	v := w.env.Cut(before)
	w.keep(i, v)
	w.setParts(i, source{made: v})
	return v
}

func (w *walker) strLet(i int) *names.Env {
	kids := w.nodes[i].Kids
	before := w.env.Mark()
	w.decs(w.nodes[kids[0]].Kids)
	v := w.structure(kids[1])
	w.env.Drop(before)
	return v
}

// strTyped is an STrans or an SOpaque.
func (w *walker) strTyped(i int) *names.Env {
	kids := w.nodes[i].Kids
	v := w.structure(kids[0])
	sig := w.signature(kids[1])
	_, realized := w.match(i, v, sig)
	if w.nodes[i].Kind == api.STrans {
		return realized
	}
	opaque, _ := w.renew(i, sig.env, sig.flex)
	return opaque
}

func (w *walker) strApp(i int) *names.Env {
	f, ok := w.functors.Find(w.nodes[i].Text)
	if !ok {
		w.check(i, api.ErrUnbound)
	}
	w.noteAt(i, f.at)
	v := w.structure(w.nodes[i].Kids[0])
	found, _ := w.match(i, v, f.param)
	body, _ := w.renew(i, w.realize(i, w.drawn(names.Where{}, f.body), f.param.flex, found), f.anew)
	return body
}
