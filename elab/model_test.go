package elab

import (
	"slices"
	"sort"
	"strings"

	"kiln/api"
	"kiln/fix"
	"kiln/flo"
	"kiln/types"
)

// reading is a second reading of the chapter: environments are lists that are handed on, what is general is what is not free in the environment, and datatypes are made again and again till their equality stays.
type reading struct {
	l     []api.Node
	b     *types.Book
	env   api.Env
	notes map[int]api.Note
	next  int
	level int
	tys   []map[string]int // what type variables stand for, from without
	made  []int            // type constructors, in order
	prims map[int]int
	recs  map[int]int
	log   []func(*reading) // what was done without a fault
}

// wrong is what a reading panics with.
type wrong struct {
	at int
	e  api.Errno
}

func newReading(v api.Env, b *types.Book) *reading {
	return &reading{b: b, env: v, notes: map[int]api.Note{}, next: 100}
}

func (r *reading) must(at int, e api.Errno) {
	if e != api.OK {
		panic(wrong{at, e})
	}
}

// do does something that stays.
func (r *reading) do(f func(*reading)) {
	f(r)
	r.log = append(r.log, f)
}

// again is a reading of all that was done without a fault: so a refused declaration has left nothing.
func (r *reading) again() *reading {
	e := New()
	fresh := newReading(e.Env(), e.Book())
	for _, f := range r.log {
		fresh.do(f)
	}
	return fresh
}

// dec is Dec: the node of the fault.
func (r *reading) dec(i int) (at int, e api.Errno) {
	defer func() {
		if p := recover(); p != nil {
			w := p.(wrong)
			at, e = w.at, w.e
			*r = *r.again()
		}
	}()
	r.do(func(r *reading) {
		r.level, r.tys, r.made, r.prims, r.recs = 0, nil, nil, map[int]int{}, map[int]int{}
		r.env = r.declare(i, r.env)
		r.end()
	})
	return -1, api.OK
}

func (r *reading) end() {
	for i := range r.l {
		if t, ok := r.prims[i]; ok {
			n := r.notes[i]
			if t >= 0 {
				r.must(i, r.b.Settle(t))
				look, _ := r.b.Look(t)
				n.Con = look.Con
			}
			r.notes[i] = n
		}
	}
	for i := range r.l {
		if t, ok := r.recs[i]; ok {
			look, _ := r.b.Look(t)
			if look.Kind != api.YRec {
				r.must(i, api.ErrFields)
			}
			r.notes[i] = api.Note{Labels: look.Labels}
		}
	}
}

// structure is the Str of a path, with its At.
func (r *reading) structure(v api.Env, path []string) (api.Str, bool) {
	var found api.Str
	for depth, name := range path {
		ok := false
		around := found
		for _, s := range v.Strs {
			if s.Name == name {
				found, ok = s, true
			}
		}
		if !ok {
			return api.Str{}, false
		}
		if depth > 0 {
			found.At = api.Access{Id: around.At.Id, Path: append(slices.Clone(around.At.Path), slices.Index(r.fieldNames(v), "structure "+name))}
		}
		v = found.Env
	}
	return found, len(path) > 0
}

// fieldNames are a structure's fields, in order.
func (r *reading) fieldNames(v api.Env) []string {
	is := map[string]api.Naming{}
	for _, e := range v.Vals {
		is["value "+e.Name] = e.Is
	}
	for _, s := range v.Strs {
		is["structure "+s.Name] = api.SVar
	}
	var values, structures []string
	for name, n := range is {
		switch {
		case n != api.SVar && n != api.SExn:
		case strings.HasPrefix(name, "value "):
			values = append(values, name)
		default:
			structures = append(structures, name)
		}
	}
	sort.Strings(values)
	sort.Strings(structures)
	return append(values, structures...)
}

func (r *reading) find(v api.Env, path []string, name string) (api.Entry, bool) {
	var s api.Str
	if len(path) > 0 {
		var ok bool
		if s, ok = r.structure(v, path); !ok {
			return api.Entry{}, false
		}
		v = s.Env
	}
	for i := len(v.Vals) - 1; i >= 0; i-- {
		if e := v.Vals[i]; e.Name == name {
			if len(path) > 0 {
				e.At = api.Access{}
				if e.Is == api.SVar || e.Is == api.SExn {
					e.At = api.Access{Id: s.At.Id, Path: append(slices.Clone(s.At.Path), slices.Index(r.fieldNames(v), "value "+name))}
				}
			}
			return e, true
		}
	}
	return api.Entry{}, false
}

func (r *reading) findType(v api.Env, path []string, name string) (api.Typ, bool) {
	if len(path) > 0 {
		s, ok := r.structure(v, path)
		if !ok {
			return api.Typ{}, false
		}
		v = s.Env
	}
	for i := len(v.Types) - 1; i >= 0; i-- {
		if v.Types[i].Name == name {
			return v.Types[i], true
		}
	}
	return api.Typ{}, false
}

func (r *reading) fresh(at int) int {
	t, e := r.b.Var(r.level, false, api.Any)
	r.must(at, e)
	return t
}

func (r *reading) con(con int) int {
	t, _ := r.b.Apply(con)
	return t
}

// record sorts fields and makes a record, or an open one.
func (r *reading) record(at int, labels []string, ts []int, open bool) int {
	order := make([]int, len(labels))
	for i := range order {
		order[i] = i
	}
	rank := func(s string) string { // labels of digits by their length, ahead of all others
		if s != "" && s[0] != '0' && strings.Trim(s, "0123456789") == "" {
			return string(rune(1+len(s))) + s
		}
		return "\uffff" + s
	}
	sort.SliceStable(order, func(i, k int) bool { return rank(labels[order[i]]) < rank(labels[order[k]]) })
	var names []string
	var args []int
	for _, i := range order {
		names, args = append(names, labels[i]), append(args, ts[i])
	}
	if open {
		t, e := r.b.Open(r.level, names, args...)
		r.must(at, e)
		return t
	}
	t, e := r.b.Record(names, args...)
	r.must(at, e)
	return t
}

func (r *reading) ty(i int, v api.Env) int {
	n := r.l[i]
	switch n.Kind {
	case api.TVar:
		for k := len(r.tys) - 1; k >= 0; k-- {
			if t, ok := r.tys[k][n.Text]; ok {
				return t
			}
		}
		r.must(i, api.ErrUnbound)
	case api.TCon:
		typ, ok := r.findType(v, n.Path, n.Text)
		if !ok {
			r.must(i, api.ErrUnbound)
		}
		var args []int
		for _, k := range n.Kids {
			args = append(args, r.ty(k, v))
		}
		t, e := r.b.Put(typ.Scheme, args...)
		r.must(i, e)
		return t
	case api.TRec:
		var labels []string
		var args []int
		for _, k := range n.Kids {
			labels, args = append(labels, r.l[k].Text), append(args, r.ty(r.l[k].Kids[0], v))
		}
		return r.record(i, labels, args, false)
	}
	from := r.ty(n.Kids[0], v)
	to := r.ty(n.Kids[1], v)
	t, e := r.b.Arrow(from, to)
	r.must(i, e)
	return t
}

// bound are names that patterns bound, in order.
type boundName struct {
	name string
	id   int
	t    int
}

func (r *reading) bindName(i int, name string, into *[]boundName) int {
	for _, b := range *into {
		if b.name == name {
			r.must(i, api.ErrTwice)
		}
	}
	id := r.next
	r.next++
	t := r.fresh(i)
	*into = append(*into, boundName{name, id, t})
	r.notes[i] = api.Note{Is: api.SVar, At: api.Access{Id: id}}
	return t
}

func (r *reading) noteOf(e api.Entry) api.Note {
	switch e.Is {
	case api.SCon:
		return api.Note{Is: e.Is, Con: e.Con, Tag: e.Tag, Count: e.Count, Arg: e.Arg}
	case api.SPrim:
		return api.Note{Is: e.Is, Name: e.Name, Con: -1}
	}
	return api.Note{Is: e.Is, At: e.At, Arg: e.Is == api.SExn && e.Arg}
}

func (r *reading) pat(i int, v api.Env, into *[]boundName) int {
	n := r.l[i]
	switch n.Kind {
	case api.NInt:
		_, e := fix.Constant(n.Text)
		r.must(i, e)
		return r.con(api.ConInt)
	case api.NString:
		return r.con(api.ConString)
	case api.NChar:
		return r.con(api.ConChar)
	case api.PWild:
		return r.fresh(i)
	case api.PName:
		e, ok := r.find(v, n.Path, n.Text)
		if ok && (e.Is == api.SCon || e.Is == api.SExn) {
			if e.Arg {
				r.must(i, api.ErrPat)
			}
			t, _, errno := r.b.Instance(e.Scheme, r.level)
			r.must(i, errno)
			r.notes[i] = r.noteOf(e)
			return t
		}
		if len(n.Path) > 0 {
			r.must(i, api.ErrUnbound)
		}
		return r.bindName(i, n.Text, into)
	case api.PApp:
		name := n.Kids[0]
		e, ok := r.find(v, r.l[name].Path, r.l[name].Text)
		if !ok || e.Is == api.SVar || e.Is == api.SPrim {
			r.must(name, api.ErrUnbound)
		}
		if !e.Arg {
			r.must(name, api.ErrPat)
		}
		t, _, errno := r.b.Instance(e.Scheme, r.level)
		r.must(name, errno)
		r.notes[name] = r.noteOf(e)
		look, _ := r.b.Look(t)
		arg := r.pat(n.Kids[1], v, into)
		r.must(i, r.b.Unify(look.Args[0], arg))
		return look.Args[1]
	case api.PRecord:
		var labels []string
		var args []int
		open := false
		for _, k := range n.Kids {
			if r.l[k].Kind == api.PDots {
				open = true
			} else {
				labels, args = append(labels, r.l[k].Text), append(args, r.pat(r.l[k].Kids[0], v, into))
			}
		}
		r.recs[i] = r.record(i, labels, args, open)
		return r.recs[i]
	case api.PTyped:
		t := r.pat(n.Kids[0], v, into)
		r.must(i, r.b.Unify(t, r.ty(n.Kids[1], v)))
		return t
	}
	t := r.bindName(i, n.Text, into)
	r.must(i, r.b.Unify(t, r.pat(n.Kids[0], v, into)))
	return t
}

// with is an environment with one more value.
func with(v api.Env, l ...api.Entry) api.Env {
	v.Vals = append(slices.Clone(v.Vals), l...)
	return v
}

func withType(v api.Env, l ...api.Typ) api.Env {
	v.Types = append(slices.Clone(v.Types), l...)
	return v
}

func (b boundName) entry(s api.Scheme) api.Entry {
	return api.Entry{Name: b.name, Is: api.SVar, Scheme: s, At: api.Access{Id: b.id}}
}

func (r *reading) exp(i int, v api.Env) int {
	n := r.l[i]
	switch n.Kind {
	case api.NInt:
		_, e := fix.Constant(n.Text)
		r.must(i, e)
		return r.con(api.ConInt)
	case api.NReal:
		_, e := flo.Parse(n.Text)
		r.must(i, e)
		return r.con(api.ConReal)
	case api.NString:
		return r.con(api.ConString)
	case api.NChar:
		return r.con(api.ConChar)
	case api.EName:
		return r.name(i, v)
	case api.ERecord:
		var labels []string
		var args []int
		for _, k := range n.Kids {
			labels, args = append(labels, r.l[k].Text), append(args, r.exp(r.l[k].Kids[0], v))
		}
		return r.record(i, labels, args, false)
	case api.EApp:
		f := r.exp(n.Kids[0], v)
		a := r.exp(n.Kids[1], v)
		result := r.fresh(i)
		arrow, e := r.b.Arrow(a, result)
		r.must(i, e)
		r.must(i, r.b.Unify(f, arrow))
		return result
	case api.ETyped:
		t := r.exp(n.Kids[0], v)
		r.must(i, r.b.Unify(t, r.ty(n.Kids[1], v)))
		return t
	case api.EFn:
		from, to := r.fresh(i), r.fresh(i)
		r.rules(n.Kids, from, to, v)
		t, e := r.b.Arrow(from, to)
		r.must(i, e)
		return t
	case api.EHandle:
		t := r.exp(n.Kids[0], v)
		r.rules(n.Kids[1:], r.con(api.ConExn), t, v)
		return t
	case api.ERaise:
		r.must(i, r.b.Unify(r.con(api.ConExn), r.exp(n.Kids[0], v)))
		return r.fresh(i)
	}
	return r.let(i, v)
}

func (r *reading) name(i int, v api.Env) int {
	e, ok := r.find(v, r.l[i].Path, r.l[i].Text)
	if !ok {
		r.must(i, api.ErrUnbound)
	}
	r.notes[i] = r.noteOf(e)
	if e.Is != api.SPrim {
		t, _, errno := r.b.Instance(e.Scheme, r.level)
		r.must(i, errno)
		return t
	}
	r.prims[i] = -1
	var vars []int
	for _, s := range e.Scheme.Vars {
		look, _ := r.b.Look(s)
		made, _ := r.b.Var(r.level, look.Equal, look.Class)
		if look.Class != api.Any {
			r.prims[i] = made
		}
		vars = append(vars, made)
	}
	t, errno := r.b.Put(e.Scheme, vars...)
	r.must(i, errno)
	return t
}

func (r *reading) rules(l []int, from, to int, v api.Env) {
	for _, k := range l {
		var names []boundName
		r.must(k, r.b.Unify(from, r.pat(r.l[k].Kids[0], v, &names)))
		inner := v
		for _, b := range names {
			inner = with(inner, b.entry(api.Scheme{Type: b.t}))
		}
		r.must(k, r.b.Unify(to, r.exp(r.l[k].Kids[1], inner)))
	}
}

// loose are the SVars of an environment, and of its structures, whose types have variables that their schemes have not.
func (r *reading) loose(v api.Env) []int {
	var l []int
	for _, e := range v.Vals {
		if e.Is == api.SVar && len(r.freeIn(e.Scheme)) > 0 {
			l = append(l, e.Scheme.Type)
		}
	}
	for _, s := range v.Strs {
		l = append(l, r.loose(s.Env)...)
	}
	return l
}

// freeIn are the variables of a scheme's type that the scheme has not.
func (r *reading) freeIn(s api.Scheme) []int {
	return slices.DeleteFunc(r.b.Free(s.Type), func(v int) bool { return slices.Contains(s.Vars, v) })
}

// freeOf are all variables that are free in an environment.
func (r *reading) freeOf(v api.Env) []int {
	var free []int
	for _, e := range v.Vals {
		if e.Is == api.SVar || e.Is == api.SExn {
			free = append(free, r.freeIn(e.Scheme)...)
		}
	}
	for _, s := range v.Strs {
		free = append(free, r.freeOf(s.Env)...)
	}
	return free
}

// fixed are all variables that may not become general: those of the environment, and those that type variables around stand for.
func (r *reading) fixed(v api.Env) []int {
	l := r.freeOf(v)
	for _, scope := range r.tys {
		for _, t := range scope {
			l = append(l, t)
		}
	}
	return l
}

// names tells whether one of these type constructors stands in a type.
func (r *reading) names(cons []int, t int) bool {
	look, _ := r.b.Look(t)
	if look.Kind == api.YCon && slices.Contains(cons, look.Con) {
		return true
	}
	return slices.ContainsFunc(look.Args, func(a int) bool { return r.names(cons, a) })
}

func (r *reading) let(i int, v api.Env) int {
	n := r.l[i]
	loose, from := r.loose(v), len(r.made)
	inner := v
	for _, k := range r.l[n.Kids[0]].Kids {
		inner = r.declare(k, inner)
	}
	t := r.exp(n.Kids[1], inner)
	for _, u := range append(loose, t) {
		if r.names(r.made[from:], u) {
			r.must(i, api.ErrEscape)
		}
	}
	return t
}

// declare is the environment with what a declaration puts there.
func (r *reading) declare(i int, v api.Env) api.Env {
	n := r.l[i]
	switch n.Kind {
	case api.DVal, api.DRec:
		return r.values(i, v)
	case api.DType, api.XAlias:
		var made []api.Typ
		for _, k := range n.Kids {
			kids := r.l[k].Kids
			s := r.typeScope(kids[:len(kids)-1])
			s.Type = r.ty(kids[len(kids)-1], v)
			r.tys = r.tys[:len(r.tys)-1]
			made = append(made, api.Typ{Name: r.l[k].Text, Scheme: s})
		}
		return withType(v, made...)
	case api.DData, api.XData:
		return r.data(i, v)
	case api.DCopy:
		of := r.l[n.Kids[0]]
		typ, ok := r.findType(v, of.Path, of.Text)
		if !ok {
			r.must(n.Kids[0], api.ErrUnbound)
		}
		typ.Name = n.Text
		return with(withType(v, typ), typ.Cons...)
	case api.DExn:
		return r.exceptions(n.Kids, v)
	case api.DLocal:
		inner := v
		for _, k := range r.l[n.Kids[0]].Kids {
			inner = r.declare(k, inner)
		}
		outer := inner
		for _, k := range r.l[n.Kids[1]].Kids {
			outer = r.declare(k, outer)
		}
		v = with(v, outer.Vals[len(inner.Vals):]...)
		v = withType(v, outer.Types[len(inner.Types):]...)
		v.Strs = append(slices.Clone(v.Strs), outer.Strs[len(inner.Strs):]...)
		return v
	case api.DOpen:
		for _, k := range n.Kids {
			path := append(slices.Clone(r.l[k].Path), r.l[k].Text)
			s, ok := r.structure(v, path)
			if !ok {
				r.must(k, api.ErrUnbound)
			}
			v = r.open(s, v)
		}
		return v
	}
	r.must(i, api.ErrModule)
	return v
}

// open is the environment with all that a structure says: each name where its field is.
func (r *reading) open(s api.Str, v api.Env) api.Env {
	fields := r.fieldNames(s.Env)
	at := func(name string) api.Access {
		return api.Access{Id: s.At.Id, Path: append(slices.Clone(s.At.Path), slices.Index(fields, name))}
	}
	for _, e := range s.Env.Vals {
		e.At = api.Access{}
		if name := "value " + e.Name; (e.Is == api.SVar || e.Is == api.SExn) && slices.Contains(fields, name) {
			e.At = at(name)
		}
		v = with(v, e)
	}
	v = withType(v, s.Env.Types...)
	v.Strs = slices.Clone(v.Strs)
	for _, inner := range s.Env.Strs {
		inner.At = at("structure " + inner.Name)
		v.Strs = append(v.Strs, inner)
	}
	return v
}

// typeScope begins the scope of TVars, and answers a scheme of these variables.
func (r *reading) typeScope(tyvars []int) api.Scheme {
	var s api.Scheme
	scope := map[string]int{}
	for _, k := range tyvars {
		t, e := r.b.Var(r.level, strings.HasPrefix(r.l[k].Text, "''"), api.Any)
		r.must(k, e)
		s.Vars = append(s.Vars, t)
		scope[r.l[k].Text] = t
	}
	r.tys = append(r.tys, scope)
	return s
}

func (r *reading) exceptions(kids []int, v api.Env) api.Env {
	var made []api.Entry
	for _, k := range kids {
		n := r.l[k]
		if n.Kind == api.NSame {
			of := r.l[n.Kids[0]]
			e, ok := r.find(v, of.Path, of.Text)
			if !ok || e.Is != api.SExn {
				r.must(n.Kids[0], api.ErrUnbound)
			}
			e.Name = n.Text
			made = append(made, e)
			continue
		}
		t := r.con(api.ConExn)
		if len(n.Kids) > 0 {
			var e api.Errno
			t, e = r.b.Arrow(r.ty(n.Kids[0], v), t)
			r.must(k, e)
		}
		made = append(made, api.Entry{Name: n.Text, Is: api.SExn, Scheme: api.Scheme{Type: t}, Arg: len(n.Kids) > 0, At: api.Access{Id: r.next}})
		r.next++
	}
	for i, k := range kids {
		r.notes[k] = r.noteOf(made[i])
	}
	return with(v, made...)
}

// data makes all datatypes, with an equality for each, till no more of them lose it.
func (r *reading) data(i int, v api.Env) api.Env {
	kids := r.l[i].Kids
	equal := make([]api.Equality, len(kids))
	for k := range equal {
		equal[k] = api.If
	}
	for {
		typs := r.dataOnce(kids, equal, v)
		stays := true
		for k, typ := range typs {
			if equal[k] == api.If && !r.admits(typ) {
				equal[k], stays = api.Never, false
			}
		}
		if stays {
			v = withType(v, typs...)
			for _, typ := range typs {
				v = with(v, typ.Cons...)
			}
			return v
		}
	}
}

// admits tells whether all that a datatype's constructors take admits equality, if its variables do.
func (r *reading) admits(typ api.Typ) bool {
	for _, c := range typ.Cons {
		var equals []int
		for range c.Scheme.Vars {
			t, _ := r.b.Var(0, true, api.Any)
			equals = append(equals, t)
		}
		t, _ := r.b.Put(c.Scheme, equals...)
		if look, _ := r.b.Look(t); look.Kind == api.YArrow && !r.b.Equal(look.Args[0]) {
			return false
		}
	}
	return true
}

func (r *reading) dataOnce(kids []int, equal []api.Equality, v api.Env) []api.Typ {
	var typs []api.Typ
	var scopes []map[string]int
	for at, k := range kids {
		var tyvars []int
		for _, m := range r.l[k].Kids {
			if r.l[m].Kind == api.TVar {
				tyvars = append(tyvars, m)
			}
		}
		s := r.typeScope(tyvars)
		scopes = append(scopes, r.tys[len(r.tys)-1])
		r.tys = r.tys[:len(r.tys)-1]
		con, e := r.b.Con(r.l[k].Text, len(tyvars), equal[at])
		r.must(k, e)
		r.made = append(r.made, con)
		s.Type, _ = r.b.Apply(con, s.Vars...)
		typs = append(typs, api.Typ{Name: r.l[k].Text, Scheme: s})
	}
	inner := withType(v, typs...)
	for at, k := range kids {
		r.tys = append(r.tys, scopes[at])
		look, _ := r.b.Look(typs[at].Scheme.Type)
		for _, m := range r.l[k].Kids {
			if n := r.l[m]; n.Kind == api.NCon {
				e := api.Entry{Name: n.Text, Is: api.SCon, Scheme: typs[at].Scheme, Con: look.Con, Arg: len(n.Kids) > 0}
				if e.Arg {
					t, errno := r.b.Arrow(r.ty(n.Kids[0], inner), e.Scheme.Type)
					r.must(m, errno)
					e.Scheme.Type = t
				}
				typs[at].Cons = append(typs[at].Cons, e)
			}
		}
		for one := range typs[at].Cons {
			for _, other := range typs[at].Cons {
				typs[at].Cons[one].Count++
				if other.Name < typs[at].Cons[one].Name {
					typs[at].Cons[one].Tag++
				}
			}
		}
		r.tys = r.tys[:len(r.tys)-1]
	}
	return typs
}

// tyvarsIn are the TVars of a phrase that are not in a DVal or DRec within.
func (r *reading) tyvarsIn(i int, into map[int]string) {
	switch r.l[i].Kind {
	case api.TVar:
		into[i] = r.l[i].Text
	case api.DVal, api.DRec:
		return
	}
	for _, k := range r.l[i].Kids {
		r.tyvarsIn(k, into)
	}
}

// values is a DVal or a DRec.
func (r *reading) values(i int, v api.Env) api.Env {
	n := r.l[i]
	r.level++
	scope := map[string]int{}
	for _, k := range n.Kids {
		into := map[int]string{}
		r.tyvarsIn(k, into)
		for _, name := range into {
			known := scope[name] != 0
			for _, s := range r.tys {
				known = known || s[name] != 0
			}
			if !known {
				t, e := r.b.Rigid(r.level, name)
				r.must(k, e)
				scope[name] = t
			}
		}
	}
	r.tys = append(r.tys, scope)
	var ts []int
	var names [][]boundName
	if n.Kind == api.DVal {
		ts, names = r.plain(n.Kids, v)
	} else {
		ts, names = r.recursive(n.Kids, v)
	}
	r.tys = r.tys[:len(r.tys)-1]
	r.level--
	var entries []api.Entry
	for at, k := range n.Kids {
		value := n.Kind == api.DRec || r.isValue(r.l[k].Kids[1])
		fixed := r.fixed(v)
		for _, t := range r.b.Free(ts[at]) {
			look, _ := r.b.Look(t)
			switch {
			case slices.Contains(fixed, t):
			case value && look.Class != api.Any:
				r.must(k, r.b.Settle(t))
			case !value:
				r.must(k, r.b.Unify(t, r.fresh(k)))
			}
		}
		for _, b := range names[at] {
			entries = append(entries, b.entry(r.general(k, b.t, value, fixed)))
		}
	}
	return with(v, entries...)
}

// general is a scheme of all variables that are not fixed by the environment.
func (r *reading) general(at, t int, value bool, fixed []int) api.Scheme {
	s := api.Scheme{Type: t}
	if !value {
		return s
	}
	for _, x := range r.b.Free(t) {
		if slices.Contains(fixed, x) {
			continue
		}
		if look, _ := r.b.Look(x); look.Open {
			r.must(at, api.ErrFields)
		}
		s.Vars = append(s.Vars, x)
	}
	return s
}

func (r *reading) plain(kids []int, v api.Env) ([]int, [][]boundName) {
	var ts, ps []int
	for _, k := range kids {
		ts = append(ts, r.exp(r.l[k].Kids[1], v))
	}
	var all []boundName
	var names [][]boundName
	for at, k := range kids {
		from := len(all)
		t := r.pat(r.l[k].Kids[0], v, &all)
		r.must(k, r.b.Unify(t, ts[at]))
		ps = append(ps, t)
		names = append(names, slices.Clone(all[from:]))
	}
	return ps, names
}

func (r *reading) recursive(kids []int, v api.Env) ([]int, [][]boundName) {
	var ts []int
	var names [][]boundName
	inner := v
	for _, k := range kids {
		var one []boundName
		t := r.recPattern(r.l[k].Kids[0], v, &one)
		ts, names = append(ts, t), append(names, one)
		inner = with(inner, one[0].entry(api.Scheme{Type: t}))
	}
	for at, k := range kids {
		r.must(k, r.b.Unify(ts[at], r.exp(r.l[k].Kids[1], inner)))
	}
	return ts, names
}

func (r *reading) recPattern(i int, v api.Env, into *[]boundName) int {
	n := r.l[i]
	if n.Kind == api.PName {
		return r.bindName(i, n.Text, into)
	}
	t := r.recPattern(n.Kids[0], v, into)
	r.must(i, r.b.Unify(t, r.ty(n.Kids[1], v)))
	return t
}

func (r *reading) isValue(i int) bool {
	n := r.l[i]
	switch n.Kind {
	case api.ELet, api.EHandle, api.ERaise:
		return false
	case api.ETyped:
		return r.isValue(n.Kids[0])
	case api.EApp:
		note := r.notes[n.Kids[0]]
		return r.l[n.Kids[0]].Kind == api.EName && r.isValue(n.Kids[1]) && (note.Is == api.SExn || note.Is == api.SCon && note.Con != api.ConRef)
	case api.ERecord:
		return !slices.ContainsFunc(n.Kids, func(k int) bool { return !r.isValue(r.l[k].Kids[0]) })
	}
	return true
}
