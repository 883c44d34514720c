package lower

import (
	"slices"

	"kiln/api"
	"kiln/fix"
	"kiln/flo"
	"kiln/labels"
	"kiln/values"
)

// reading is a second reading of the chapter: each sentence as it stands there, by calls of Go and functions of Go. (So no run of it is a long one.)
type reading struct {
	*values.State
	prims []api.Prim
}

// env is what variables are bound to.
type env struct {
	id  int
	val values.Value
	out *env
}

func (v *env) with(id int, val values.Value) *env { return &env{id, val, v} }

type (
	modelFn      func(values.Value) values.Value
	modelFunctor func(values.Value) values.Value
	modelRaise   struct{ packet values.Value }
	modelEnd     struct{ status api.Status }
)

// one is a unit that is read.
type one struct {
	*reading
	api.Unit
}

// modelRun is what units do, by the second reading.
func modelRun(l []api.Unit, input []string, fuel int) (o api.Outcome) {
	r := &reading{values.NewState(input, fuel), api.Prims()}
	defer func() {
		switch x := recover().(type) {
		case nil:
		case modelRaise:
			o = r.Raised(x.packet)
		case modelEnd:
			o = r.Outcome(x.status)
		default:
			panic(x)
		}
	}()
	var v *env
	v = v.with(0, values.Int(0)) // the structure Prim
	for i, name := range []string{"Bind", "Chr", "Div", "Domain", "Match", "Overflow", "Size", "Subscript"} {
		v = v.with(i+1, r.exn(name))
	}
	for _, u := range l {
		v = one{r, u}.decs(u.Root, v)
	}
	return r.Outcome(api.Done)
}

func (r *reading) step() {
	if !r.Step() {
		panic(modelEnd{api.OutOfFuel})
	}
}

func (r *reading) stop() { panic(modelEnd{api.Stuck}) }

func (r *reading) prim(name string, con int, l ...values.Value) values.Value {
	at := slices.IndexFunc(r.prims, func(p api.Prim) bool { return p.Name == name && p.Con == con })
	if at < 0 {
		r.stop()
	}
	if n := r.prims[at].Args; n > 1 && len(l) == 1 {
		l = l[0].(values.Tuple)
	}
	a := r.Do(at, l)
	if a.End != 0 {
		panic(modelEnd{a.End})
	}
	if a.Code != 0 {
		panic(a.Code)
	}
	return a.Val
}

func (r *reading) exn(name string) values.Value { return r.prim("exn", -1, values.Text(name)) }

func (r *reading) find(v *env, at api.Access) values.Value {
	for v != nil && v.id != at.Id {
		v = v.out
	}
	if v == nil {
		r.stop()
	}
	val := v.val
	for _, n := range at.Path {
		val = val.(values.Tuple)[n]
	}
	return val
}

// raise raises the exception of a number.
func (r *reading) raise(v *env, code int) values.Value {
	panic(modelRaise{values.Tuple{r.find(v, api.Access{Id: code}), values.Int(0)}})
}

func tupleOf(l []values.Value) values.Value {
	if len(l) == 0 {
		return values.Int(0)
	}
	return values.Tuple(l)
}

// meaning is what a name stands for.
func (u one) meaning(v *env, is api.Naming, name string, con, tag int, arg bool, at func() values.Value) values.Value {
	switch is {
	case api.SVar:
		return at()
	case api.SCon:
		if !arg {
			return values.Int(tag)
		}
		return modelFn(func(x values.Value) values.Value {
			if con == api.ConRef {
				return u.prim("ref", -1, x)
			}
			return &values.Con{Tag: tag, Of: x}
		})
	case api.SExn:
		cell := at()
		if !arg {
			return values.Tuple{cell, values.Int(0)}
		}
		return modelFn(func(x values.Value) values.Value { return values.Tuple{cell, x} })
	case api.SPrim:
		return modelFn(func(x values.Value) values.Value {
			defer func() {
				if r := recover(); r != nil {
					if code, ok := r.(int); ok {
						u.raise(v, code)
					}
					panic(r)
				}
			}()
			if name == "exn" { // of the type exn are packets alone
				return values.Tuple{u.exn(string(x.(values.Text))), values.Int(0)}
			}
			return u.prim(name, con, x)
		})
	}
	u.stop()
	return nil
}

func (u one) constant(i int) values.Value {
	switch n := u.Nodes[i]; n.Kind {
	case api.NInt:
		x, _ := fix.Constant(n.Text)
		return values.Int(x)
	case api.NReal:
		x, _ := flo.Parse(n.Text)
		return values.Real(x)
	case api.NChar:
		return values.Int(n.Text[0])
	}
	return values.Text(u.Nodes[i].Text)
}

func (u one) exp(i int, v *env) values.Value {
	u.step()
	n, note := u.Nodes[i], u.Notes[i]
	switch n.Kind {
	case api.EName:
		return u.meaning(v, note.Is, note.Name, note.Con, note.Tag, note.Arg, func() values.Value { return u.find(v, note.At) })
	case api.ERecord:
		type field struct {
			label string
			val   values.Value
		}
		var l []field
		for _, k := range n.Kids {
			l = append(l, field{u.Nodes[k].Text, u.exp(u.Nodes[k].Kids[0], v)})
		}
		slices.SortFunc(l, func(a, b field) int { return labels.Compare(a.label, b.label) })
		var vals []values.Value
		for _, f := range l {
			vals = append(vals, f.val)
		}
		return tupleOf(vals)
	case api.EApp:
		f := u.exp(n.Kids[0], v)
		x := u.exp(n.Kids[1], v)
		return f.(modelFn)(x)
	case api.ETyped:
		return u.exp(n.Kids[0], v)
	case api.EFn:
		return u.function(i, v)
	case api.ELet:
		return u.exp(n.Kids[1], u.decs(n.Kids[0], v))
	case api.ERaise:
		panic(modelRaise{u.exp(n.Kids[0], v)})
	case api.EHandle:
		val, packet := u.tried(n.Kids[0], v)
		if packet == nil {
			return val
		}
		return u.rules(n.Kids[1:], packet, v, func() values.Value { panic(modelRaise{packet}) })
	}
	return u.constant(i)
}

func (u one) tried(i int, v *env) (val, packet values.Value) {
	defer func() {
		switch r := recover().(type) {
		case nil:
		case modelRaise:
			packet = r.packet
		default:
			panic(r)
		}
	}()
	return u.exp(i, v), nil
}

func (u one) function(i int, v *env) values.Value {
	return modelFn(func(x values.Value) values.Value {
		return u.rules(u.Nodes[i].Kids, x, v, func() values.Value { return u.raise(v, 5) })
	})
}

func (u one) rules(l []int, x values.Value, v *env, others func() values.Value) values.Value {
	for _, k := range l {
		kids := u.Nodes[k].Kids
		if w, ok := u.pat(kids[0], x, v); ok {
			return u.exp(kids[1], w)
		}
	}
	return others()
}

// pat is whether a value matches a pattern, and what variables are bound to then.
func (u one) pat(i int, x values.Value, v *env) (*env, bool) {
	u.step()
	n, note := u.Nodes[i], u.Notes[i]
	switch n.Kind {
	case api.PWild:
		return v, true
	case api.PName:
		switch note.Is {
		case api.SVar:
			return v.with(note.At.Id, x), true
		case api.SCon:
			return v, x == values.Value(values.Int(note.Tag))
		}
		return v, x.(values.Tuple)[0] == u.find(v, note.At)
	case api.PApp:
		switch name := u.Notes[n.Kids[0]]; {
		case name.Is == api.SExn:
			packet := x.(values.Tuple)
			if packet[0] != u.find(v, name.At) {
				return v, false
			}
			return u.pat(n.Kids[1], packet[1], v)
		case name.Con == api.ConRef:
			return u.pat(n.Kids[1], u.prim("!", -1, x), v)
		default:
			c, ok := x.(*values.Con)
			if !ok || c.Tag != name.Tag {
				return v, false
			}
			return u.pat(n.Kids[1], c.Of, v)
		}
	case api.PRecord:
		ok := true
		for _, k := range n.Kids {
			if ok && u.Nodes[k].Kind == api.NField {
				v, ok = u.pat(u.Nodes[k].Kids[0], x.(values.Tuple)[slices.Index(note.Labels, u.Nodes[k].Text)], v)
			}
		}
		return v, ok
	case api.PTyped:
		return u.pat(n.Kids[0], x, v)
	case api.PAs:
		return u.pat(n.Kids[0], x, v.with(note.At.Id, x))
	}
	return v, x == u.constant(i)
}

func (u one) decs(i int, v *env) *env {
	for _, k := range u.Nodes[i].Kids {
		v = u.dec(k, v)
	}
	return v
}

func (u one) dec(i int, v *env) *env {
	u.step()
	n := u.Nodes[i]
	switch n.Kind {
	case api.DVal:
		var vals []values.Value
		for _, k := range n.Kids {
			vals = append(vals, u.exp(u.Nodes[k].Kids[1], v))
		}
		for at, k := range n.Kids {
			var ok bool
			if v, ok = u.pat(u.Nodes[k].Kids[0], vals[at], v); !ok {
				u.raise(v, 1)
			}
		}
	case api.DRec:
		return u.recursive(n, v)
	case api.DExn:
		for _, k := range n.Kids {
			if u.Nodes[k].Kind == api.NCon {
				v = v.with(u.Notes[k].At.Id, u.exn(u.Nodes[k].Text))
			}
		}
	case api.DLocal:
		return u.decs(n.Kids[1], u.decs(n.Kids[0], v))
	case api.DStr:
		var vals []values.Value
		for _, k := range n.Kids {
			vals = append(vals, u.str(u.Nodes[k].Kids[0], v))
		}
		for at, k := range n.Kids {
			v = v.with(u.Notes[k].At.Id, vals[at])
		}
	case api.DFct:
		w := v
		for _, k := range n.Kids {
			kids := u.Nodes[k].Kids
			w = w.with(u.Notes[k].At.Id, modelFunctor(func(x values.Value) values.Value {
				return u.str(kids[1], v.with(u.Notes[kids[0]].At.Id, x))
			}))
		}
		return w
	}
	return v
}

func (u one) recursive(n api.Node, v *env) *env {
	w := v
	for _, k := range n.Kids {
		name, f := u.Nodes[k].Kids[0], u.Nodes[k].Kids[1]
		for u.Nodes[name].Kind != api.PName {
			name = u.Nodes[name].Kids[0]
		}
		for u.Nodes[f].Kind != api.EFn {
			f = u.Nodes[f].Kids[0]
		}
		w = w.with(u.Notes[name].At.Id, modelFn(func(x values.Value) values.Value { return u.function(f, w).(modelFn)(x) }))
	}
	return w
}

func (u one) str(i int, v *env) values.Value {
	u.step()
	n := u.Nodes[i]
	switch n.Kind {
	case api.SStruct:
		w := u.decs(n.Kids[0], v)
		return u.parts(u.Parts[i], w, nil)
	case api.SLet:
		return u.str(n.Kids[1], u.decs(n.Kids[0], v))
	case api.STrans, api.SOpaque:
		return u.parts(u.Parts[i], v, u.str(n.Kids[0], v))
	case api.SApp:
		f := u.find(v, u.Notes[i].At)
		x := u.str(n.Kids[0], v)
		return f.(modelFunctor)(u.parts(u.Parts[i], v, x))
	}
	return u.find(v, u.Notes[i].At)
}

// parts are parts out of a structure, or, if that is nil, of variables.
func (u one) parts(l []api.Part, v *env, out values.Value) values.Value {
	var vals []values.Value
	for _, p := range l {
		u.step()
		at := func() values.Value {
			if out == nil {
				return u.find(v, p.From.At)
			}
			return u.find(&env{0, out, nil}, p.From.At)
		}
		switch {
		case p.Str && len(p.Sub) == 0:
			vals = append(vals, at())
		case p.Str:
			vals = append(vals, u.parts(p.Sub, v, out))
		case p.Exn:
			vals = append(vals, at())
		default:
			vals = append(vals, u.meaning(v, p.From.Is, p.From.Name, -1, p.From.Tag, p.From.Arg, at))
		}
	}
	return tupleOf(vals)
}
