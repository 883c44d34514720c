package modules

import (
	"slices"
	"strings"

	"kiln/api"
	"kiln/elab"
	"kiln/tree"
)

// reading is a second reading of the chapter: each sentence as it stands there, with an elaborator whose whole environment is told and set at each step.
type reading struct {
	*elab.Elab
	l        []api.Node
	sigs     []api.Sigma
	functors []api.Functor
	parts    map[int][]api.Part
	log      []func(*reading) // what was done without a fault
}

func newReading() *reading { return &reading{Elab: elab.New()} }

// bad is a fault at a node; or at a place that the elaborator told.
type bad struct {
	line  int
	errno api.Errno
}

func (r *reading) fail(i int, e api.Errno) { panic(bad{r.l[i].Line, e}) }

func (r *reading) must(i int, e api.Errno) {
	if e != api.OK {
		r.fail(i, e)
	}
}

// do does something that stays.
func (r *reading) do(f func(*reading)) {
	f(r)
	r.log = append(r.log, f)
}

// again is a reading of all that was done without a fault, whose next number, and number of type constructors, are those of this one: so a refused declaration has left nothing but these.
func (r *reading) again() *reading {
	fresh := newReading()
	for _, f := range r.log {
		fresh.do(f)
	}
	number, made := r.Fresh(), r.made()
	fresh.do(func(r *reading) {
		for r.Fresh() < number {
		}
		for r.made() < made {
			r.Book().Con("gone", 0, api.If)
		}
	})
	return fresh
}

// program goes over a program whose nodes' lines are their numbers and 1. With a fault in a declaration one number more is spent.
func (r *reading) program(l []api.Node, root int) (line int, e api.Errno) {
	if e := r.Begin(l, root); e != api.OK {
		return 0, e
	}
	r.do(func(r *reading) {
		r.Begin(l, root)
		r.l, r.parts = l, map[int][]api.Part{}
	})
	for _, i := range l[root].Kids {
		if line, e = r.try(i); e != api.OK {
			*r = *r.again()
			return line, e
		}
		r.log = append(r.log, func(r *reading) { r.dec(i, true) })
	}
	return 0, api.OK
}

func (r *reading) try(i int) (line int, e api.Errno) {
	defer func() {
		if f, ok := recover().(bad); ok {
			line, e = f.line, f.errno
		}
	}()
	r.dec(i, true)
	return 0, api.OK
}

// behind is what an environment has behind another one.
func behind(v, before api.Env) api.Env {
	return api.Env{Vals: v.Vals[len(before.Vals):], Types: v.Types[len(before.Types):], Strs: v.Strs[len(before.Strs):]}
}

// with is an environment with names behind it.
func with(v, more api.Env) api.Env {
	return api.Env{Vals: slices.Concat(v.Vals, more.Vals), Types: slices.Concat(v.Types, more.Types), Strs: slices.Concat(v.Strs, more.Strs)}
}

func (r *reading) add(v api.Env) { r.Set(with(r.Env(), v)) }

func (r *reading) decs(i int) {
	for _, k := range r.l[i].Kids {
		r.dec(k, false)
	}
}

func (r *reading) dec(i int, top bool) {
	n := r.l[i]
	switch n.Kind {
	case api.DLocal:
		before := r.Env()
		r.decs(n.Kids[0])
		between := r.Env()
		r.decs(n.Kids[1])
		r.Set(with(before, behind(r.Env(), between)))
	case api.DStr:
		var envs []api.Env
		for _, k := range n.Kids {
			envs = append(envs, r.str(r.l[k].Kids[0]))
		}
		for at, k := range n.Kids {
			r.name(k, envs[at], true)
		}
	case api.DSig:
		if !top {
			r.fail(i, api.ErrModule)
		}
		var made []api.Sigma
		for _, k := range n.Kids {
			made = append(made, r.sig(r.l[k].Kids[0]))
			made[len(made)-1].Name = r.l[k].Text
		}
		r.sigs = append(r.sigs, made...)
	case api.DFct:
		if !top {
			r.fail(i, api.ErrModule)
		}
		var made []api.Functor
		for _, k := range n.Kids {
			made = append(made, r.fct(k))
		}
		r.functors = append(r.functors, made...)
	default:
		if line, _, e := r.Dec(i); e != api.OK {
			panic(bad{line, e})
		}
	}
}

// name puts the name of a node into the environment, with a new number.
func (r *reading) name(i int, v api.Env, numbered bool) {
	var at api.Access
	if numbered {
		at.Id = r.Fresh()
		r.Note(i, api.Note{Is: api.SVar, At: at})
	}
	r.add(api.Env{Strs: []api.Str{{Name: r.l[i].Text, At: at, Env: v}}})
}

// made are how many type constructors there are.
func (r *reading) made() int {
	n := 0
	for {
		if _, _, _, ok := r.Book().Named(n); !ok {
			return n
		}
		n++
	}
}

func (r *reading) fct(i int) api.Functor {
	param, body := r.l[i].Kids[0], r.l[i].Kids[1]
	f := api.Functor{Name: r.l[i].Text, Param: r.sig(r.l[param].Kids[0])}
	f.Param.Name = r.l[param].Text
	before := r.Env()
	r.name(param, f.Param.Env, true)
	from := r.made()
	f.Body = r.str(body)
	for con := from; con < r.made(); con++ {
		f.New = append(f.New, con)
	}
	r.Set(before)
	f.At = api.Access{Id: r.Fresh()}
	r.Note(i, api.Note{Is: api.SVar, At: f.At})
	return f
}

func (r *reading) str(i int) api.Env {
	n := r.l[i]
	switch n.Kind {
	case api.SName:
		s, ok := elab.FindStr(r.Env(), append(slices.Clone(n.Path), n.Text))
		if !ok {
			r.fail(i, api.ErrUnbound)
		}
		r.Note(i, api.Note{Is: api.SVar, At: s.At})
		return s.Env
	case api.SStruct:
		before := r.Env()
		r.decs(n.Kids[0])
		v := behind(r.Env(), before)
		r.Set(before)
		r.parts[i] = nil
		vals, strs := elab.Slots(v)
		for _, name := range vals {
			e, _ := elab.Find(v, nil, name)
			r.parts[i] = append(r.parts[i], api.Part{From: e, Exn: e.Is == api.SExn})
		}
		for _, name := range strs {
			s, _ := elab.FindStr(v, []string{name})
			r.parts[i] = append(r.parts[i], api.Part{From: api.Entry{Name: name, At: s.At}, Str: true})
		}
		return v
	case api.SLet:
		before := r.Env()
		r.decs(n.Kids[0])
		v := r.str(n.Kids[1])
		r.Set(before)
		return v
	case api.SApp:
		return r.app(i)
	}
	v := r.str(n.Kids[0])
	sig := r.sig(n.Kids[1])
	_, realized := r.match(i, v, sig)
	if n.Kind == api.STrans {
		return realized
	}
	opaque, _ := r.anew(i, sig.Env, sig.Flex)
	return opaque
}

func (r *reading) app(i int) api.Env {
	at := -1
	for k, f := range r.functors {
		if f.Name == r.l[i].Text {
			at = k
		}
	}
	if at < 0 {
		r.fail(i, api.ErrUnbound)
	}
	f := r.functors[at]
	r.Note(i, api.Note{Is: api.SVar, At: f.At})
	by, _ := r.match(i, r.str(r.l[i].Kids[0]), f.Param)
	body := f.Body
	for k, con := range f.Param.Flex {
		body = r.realize(i, body, con, by[k])
	}
	body, _ = r.anew(i, body, f.New)
	return body
}

// realize puts a scheme in the place of one type constructor.
func (r *reading) realize(i int, v api.Env, con int, by api.Scheme) api.Env {
	v = Copy(v)
	entry := func(e *api.Entry) {
		t, errno := r.Book().Replace(e.Scheme.Type, con, by)
		r.must(i, errno)
		e.Scheme.Type = t
		if is, _ := r.Book().Look(by.Type); e.Is == api.SCon && e.Con == con && is.Kind == api.YCon {
			e.Con = is.Con
		}
	}
	for k := range v.Vals {
		entry(&v.Vals[k])
	}
	for k := range v.Types {
		typ := api.Entry{Scheme: v.Types[k].Scheme}
		entry(&typ)
		v.Types[k].Scheme = typ.Scheme
		for c := range v.Types[k].Cons {
			entry(&v.Types[k].Cons[c])
		}
	}
	for k := range v.Strs {
		v.Strs[k].Env = r.realize(i, v.Strs[k].Env, con, by)
	}
	return v
}

// anew realizes type constructors by new ones.
func (r *reading) anew(i int, v api.Env, cons []int) (api.Env, []int) {
	var made []int
	for _, con := range cons {
		name, arity, equal, _ := r.Book().Named(con)
		other, e := r.Book().Con(name, arity, equal)
		r.must(i, e)
		made = append(made, other)
	}
	for k, con := range cons {
		v = r.realize(i, v, con, r.alone(i, made[k]))
	}
	return v, made
}

// alone is the scheme of a type constructor with variables.
func (r *reading) alone(i, con int) api.Scheme {
	_, arity, _, _ := r.Book().Named(con)
	var s api.Scheme
	for range arity {
		v, e := r.Book().Var(0, false, api.Any)
		r.must(i, e)
		s.Vars = append(s.Vars, v)
	}
	t, e := r.Book().Apply(con, s.Vars...)
	r.must(i, e)
	s.Type = t
	return s
}

func (r *reading) sig(i int) api.Sigma {
	n := r.l[i]
	switch n.Kind {
	case api.GName:
		at := -1
		for k, s := range r.sigs {
			if s.Name == n.Text {
				at = k
			}
		}
		if at < 0 {
			r.fail(i, api.ErrUnbound)
		}
		v, flex := r.anew(i, r.sigs[at].Env, r.sigs[at].Flex)
		return api.Sigma{Env: v, Flex: flex}
	case api.GWhere:
		return r.where(n.Kids[1], r.sig(n.Kids[0]))
	}
	before := r.Env()
	var flex []int
	for _, k := range n.Kids {
		flex = append(flex, r.spec(k)...)
	}
	v := behind(r.Env(), before)
	r.Set(before)
	slices.Sort(flex)
	return api.Sigma{Env: v, Flex: flex}
}

func (r *reading) ty(i int, names []string, types []int) int {
	t, line, _, e := r.Ty(i, names, types)
	if e != api.OK {
		panic(bad{line, e})
	}
	return t
}

// once are the TVars among nodes, of each name one.
func (r *reading) once(nodes []int) []int {
	var l []int
	for _, k := range nodes {
		if r.l[k].Kind == api.TVar && !slices.ContainsFunc(l, func(i int) bool { return r.l[i].Text == r.l[k].Text }) {
			l = append(l, k)
		}
	}
	return l
}

// vars are new variables for TVars.
func (r *reading) vars(nodes []int) (names []string, vars []int) {
	for _, k := range nodes {
		v, e := r.Book().Var(1, strings.HasPrefix(r.l[k].Text, "''"), api.Any)
		r.must(k, e)
		names, vars = append(names, r.l[k].Text), append(vars, v)
	}
	return names, vars
}

func (r *reading) spec(i int) (flex []int) {
	n := r.l[i]
	var more api.Env
	switch n.Kind {
	case api.XVal:
		for _, k := range n.Kids {
			names, vars := r.vars(r.once(tree.Below(r.l, k)))
			t := r.ty(r.l[k].Kids[0], names, vars)
			more.Vals = append(more.Vals, api.Entry{Name: r.l[k].Text, Is: api.SVar, Scheme: api.Scheme{Vars: r.Book().Free(t), Type: t}})
		}
	case api.XExn:
		for _, k := range n.Kids {
			e := api.Entry{Name: r.l[k].Text, Is: api.SExn, Scheme: r.alone(k, api.ConExn)}
			for _, ty := range r.l[k].Kids {
				t, errno := r.Book().Arrow(r.ty(ty, nil, nil), e.Scheme.Type)
				r.must(k, errno)
				e.Scheme.Type, e.Arg = t, true
			}
			more.Vals = append(more.Vals, e)
		}
	case api.XType, api.XEq:
		equal := api.Never
		if n.Kind == api.XEq {
			equal = api.If
		}
		for _, k := range n.Kids {
			_, vars := r.vars(r.l[k].Kids)
			con, e := r.Book().Con(r.l[k].Text, len(vars), equal)
			r.must(k, e)
			t, e := r.Book().Apply(con, vars...)
			r.must(k, e)
			more.Types = append(more.Types, api.Typ{Name: r.l[k].Text, Scheme: api.Scheme{Vars: vars, Type: t}})
			flex = append(flex, con)
		}
	case api.XStr:
		for _, k := range n.Kids {
			s := r.sig(r.l[k].Kids[0])
			more.Strs = append(more.Strs, api.Str{Name: r.l[k].Text, Env: s.Env})
			flex = append(flex, s.Flex...)
		}
	default:
		before := r.Env()
		if line, _, e := r.Dec(i); e != api.OK {
			panic(bad{line, e})
		}
		if n.Kind == api.XData {
			for _, t := range behind(r.Env(), before).Types {
				flex = append(flex, r.con(t))
			}
		}
		return flex
	}
	r.add(more)
	return flex
}

// con is the constructor of a type's name, or -1.
func (r *reading) con(t api.Typ) int {
	part, _ := r.Book().Look(t.Scheme.Type)
	if part.Kind != api.YCon || len(part.Args) != len(t.Scheme.Vars) {
		return -1
	}
	for i, a := range part.Args {
		if !r.same(a, t.Scheme.Vars[i]) || len(r.Book().Free(a)) != 1 {
			return -1
		}
		if is, _ := r.Book().Look(a); is.Kind != api.YVar {
			return -1
		}
	}
	return part.Con
}

// same tells whether two types are written alike with the same variables.
func (r *reading) same(s, t int) bool {
	x, _ := r.Book().Look(s)
	y, _ := r.Book().Look(t)
	if x.Kind != y.Kind || x.Con != y.Con || len(x.Args) != len(y.Args) || !slices.Equal(x.Labels, y.Labels) {
		return false
	}
	if x.Kind == api.YVar {
		return slices.Equal(r.Book().Free(s), r.Book().Free(t))
	}
	for i := range x.Args {
		if !r.same(x.Args[i], y.Args[i]) {
			return false
		}
	}
	return true
}

// data tells whether a constructor is a datatype's of an environment.
func (r *reading) data(v api.Env, con int) bool {
	for _, t := range v.Types {
		if len(t.Cons) > 0 && r.con(t) == con {
			return true
		}
	}
	for _, s := range v.Strs {
		if r.data(s.Env, con) {
			return true
		}
	}
	return false
}

func (r *reading) where(i int, s api.Sigma) api.Sigma {
	n := r.l[i]
	typ, ok := elab.FindType(s.Env, n.Path, n.Text)
	if !ok {
		r.fail(i, api.ErrUnbound)
	}
	con := r.con(typ)
	if !slices.Contains(s.Flex, con) || r.data(s.Env, con) {
		r.fail(i, api.ErrWhere)
	}
	last := len(n.Kids) - 1
	names, vars := r.vars(n.Kids[:last])
	by := api.Scheme{Vars: vars, Type: r.ty(n.Kids[last], names, vars)}
	if r.unfit(i, con, by) {
		r.fail(i, api.ErrMatch)
	}
	s.Env = r.realize(i, s.Env, con, by)
	s.Flex = slices.DeleteFunc(s.Flex, func(c int) bool { return c == con })
	return s
}

// unfit tells whether a flexible constructor has other arguments, or an equality that a scheme has not.
func (r *reading) unfit(i, con int, by api.Scheme) bool {
	_, arity, equal, _ := r.Book().Named(con)
	if len(by.Vars) != arity {
		return true
	}
	return equal == api.If && !r.Book().Equal(r.put(i, by, func() (int, api.Errno) { return r.Book().Var(0, true, api.Any) }))
}

// put is a scheme's type with something in the place of its variables.
func (r *reading) put(i int, s api.Scheme, of func() (int, api.Errno)) int {
	var args []int
	for range s.Vars {
		a, e := of()
		r.must(i, e)
		args = append(args, a)
	}
	t, e := r.Book().Put(s, args...)
	r.must(i, e)
	return t
}

// placeOf is where a constructor first stands in an environment.
func (r *reading) placeOf(v api.Env, con int) ([]string, bool) {
	for _, t := range v.Types {
		if r.con(t) == con {
			return []string{t.Name}, true
		}
	}
	for _, s := range v.Strs {
		if path, ok := r.placeOf(s.Env, con); ok {
			return append([]string{s.Name}, path...), true
		}
	}
	return nil, false
}

func (r *reading) match(i int, v api.Env, sig api.Sigma) ([]api.Scheme, api.Env) {
	var by []api.Scheme
	for _, con := range sig.Flex {
		path, ok := r.placeOf(sig.Env, con)
		if !ok {
			r.fail(i, api.ErrMissing)
		}
		typ, ok := elab.FindType(v, path[:len(path)-1], path[len(path)-1])
		if !ok {
			r.fail(i, api.ErrMissing)
		}
		if r.unfit(i, con, typ.Scheme) {
			r.fail(i, api.ErrMatch)
		}
		by = append(by, typ.Scheme)
	}
	realized := sig.Env
	for k, con := range sig.Flex {
		realized = r.realize(i, realized, con, by[k])
	}
	whole := api.Env{Strs: []api.Str{{Name: "whole", Env: v}}}
	r.hold(i, v, realized)
	r.parts[i] = r.partsOf(whole, []string{"whole"}, realized)
	return by, realized
}

func (r *reading) hold(i int, v, asked api.Env) {
	b := r.Book()
	both := func(s, t api.Scheme) bool { return b.Covers(s, t) && b.Covers(t, s) }
	for _, t := range asked.Types {
		typ, ok := elab.FindType(v, nil, t.Name)
		if !ok {
			r.fail(i, api.ErrMissing)
		}
		if !r.oneScheme(i, typ.Scheme, t.Scheme) || len(t.Cons) > 0 && len(t.Cons) != len(typ.Cons) {
			r.fail(i, api.ErrMatch)
		}
		for _, c := range t.Cons {
			at := slices.IndexFunc(typ.Cons, func(e api.Entry) bool { return e.Name == c.Name })
			if at < 0 || !both(typ.Cons[at].Scheme, c.Scheme) {
				r.fail(i, api.ErrMatch)
			}
		}
	}
	for _, e := range asked.Vals {
		x, ok := elab.Find(v, nil, e.Name)
		if !ok || e.Is != api.SVar && x.Is != e.Is {
			r.fail(i, api.ErrMissing)
		}
		if e.Is == api.SVar && !b.Covers(x.Scheme, e.Scheme) || e.Is == api.SExn && !both(x.Scheme, e.Scheme) || e.Is == api.SCon && x.Con != e.Con {
			r.fail(i, api.ErrMatch)
		}
	}
	for _, s := range asked.Strs {
		x, ok := elab.FindStr(v, []string{s.Name})
		if !ok {
			r.fail(i, api.ErrMissing)
		}
		r.hold(i, x.Env, s.Env)
	}
}

// oneScheme tells whether two schemes are the same with rigid variables for their arguments.
func (r *reading) oneScheme(i int, s, t api.Scheme) bool {
	if len(s.Vars) != len(t.Vars) {
		return false
	}
	var rigid []int
	for range s.Vars {
		v, e := r.Book().Rigid(0, "'r")
		r.must(i, e)
		rigid = append(rigid, v)
	}
	next := 0
	of := func() (int, api.Errno) { next++; return rigid[next-1], api.OK }
	x := r.put(i, s, of)
	next = 0
	return r.same(x, r.put(i, t, of))
}

// partsOf are the parts of asked out of the structure of a path.
func (r *reading) partsOf(whole api.Env, path []string, asked api.Env) []api.Part {
	var l []api.Part
	vals, strs := elab.Slots(asked)
	for _, name := range vals {
		e, _ := elab.Find(whole, path, name)
		is, _ := elab.Find(asked, nil, name)
		l = append(l, api.Part{From: e, Exn: is.Is == api.SExn})
	}
	for _, name := range strs {
		within := append(slices.Clone(path), name)
		s, _ := elab.FindStr(whole, within)
		is, _ := elab.FindStr(asked, []string{name})
		l = append(l, api.Part{From: api.Entry{Name: name, At: s.At}, Str: true, Sub: r.partsOf(whole, within, is.Env)})
	}
	return l
}
