package modules

import (
	"kiln/api"
	"kiln/elab"
)

// structure goes over a structure, and answers its environment.
func (w *walker) structure(i int) api.Env {
	w.count(i, 1)
	switch w.nodes[i].Kind {
	case api.SName:
		return w.strName(i)
	case api.SStruct:
		return w.strStruct(i)
	case api.SLet:
		return w.strLet(i)
	case api.SApp:
		return w.strApp(i)
	}
	return w.strTyped(i)
}

func (w *walker) strName(i int) api.Env {
	s, ok := w.env.str(w.path(i))
	if !ok {
		w.check(i, api.ErrUnbound)
	}
	w.noteAt(i, s.At)
	w.count(i, size(s.Env))
	return s.Env
}

func (w *walker) strStruct(i int) api.Env {
	before := w.env.mark()
	w.decs(w.nodes[w.nodes[i].Kids[0]].Kids)
	v := w.env.cut(before)
	w.parts[i] = fields(v)
	return v
}

// fields are the parts of a structure whose declarations put this there.
func fields(v api.Env) []api.Part {
	s := newStructure(api.Str{Env: v})
	values, structures := elab.Slots(v)
	var parts []api.Part
	for _, name := range values {
		e, _ := s.entry(name)
		parts = append(parts, api.Part{From: e, Exn: e.Is == api.SExn})
	}
	for _, name := range structures {
		sub := v.Strs[s.names().strs[name]]
		parts = append(parts, api.Part{From: api.Entry{Name: sub.Name, At: sub.At}, Str: true})
	}
	return parts
}

func (w *walker) strLet(i int) api.Env {
	kids := w.nodes[i].Kids
	before := w.env.mark()
	w.decs(w.nodes[kids[0]].Kids)
	v := w.structure(kids[1])
	w.env.cut(before)
	return v
}

// strTyped is an STrans or an SOpaque.
func (w *walker) strTyped(i int) api.Env {
	kids := w.nodes[i].Kids
	v := w.structure(kids[0])
	sig := w.signature(kids[1])
	_, realized := w.match(i, v, sig)
	if w.nodes[i].Kind == api.STrans {
		return realized
	}
	opaque, _ := w.renew(i, sig.Env, sig.Flex)
	return opaque
}

func (w *walker) strApp(i int) api.Env {
	f, ok := w.functors.find(w.nodes[i].Text)
	if !ok {
		w.check(i, api.ErrUnbound)
	}
	w.noteAt(i, f.At)
	v := w.structure(w.nodes[i].Kids[0])
	found, _ := w.match(i, v, f.Param)
	w.count(i, size(f.Body))
	body, _ := w.renew(i, w.realize(i, f.Body, f.Param.Flex, found), f.New)
	return body
}
