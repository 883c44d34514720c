package types

import (
	"maps"
	"math/big"
	"slices"
	"sort"
	"strconv"
	"strings"

	"kiln/api"
)

// thing is a type of the model, a second reading of the chapter: fields by their labels, variables that know what they have become.
type thing struct {
	kind   api.TypeKind
	con    int
	args   []*thing
	fields map[string]*thing
	order  []string // the fields' labels, once they were asked for
	become *thing

	level       int
	equal       bool
	class       api.Class
	rigid, open bool
	name        string
}

// world keeps the model's variables, and its constructors.
type world struct {
	vars []*thing
	cons []constructor
}

func (w *world) add(v thing) *thing {
	v.kind = api.YVar
	w.vars = append(w.vars, &v)
	return &v
}

// saved is what all variables are, to go back to.
func (w *world) saved() func() {
	var old []thing
	for _, v := range w.vars {
		c := *v
		c.fields = maps.Clone(v.fields)
		old = append(old, c)
	}
	return func() {
		for i, c := range old {
			*w.vars[i] = c
		}
		w.vars = w.vars[:len(old)]
	}
}

func (x *thing) now() *thing {
	for x.become != nil {
		x = x.become
	}
	return x
}

// labels are a type's, in their order. (Fields are never taken away.)
func (x *thing) labels() []string {
	if len(x.order) != len(x.fields) {
		x.order = sorted(x.fields)
	}
	return x.order
}

// sorted are labels in their order.
func sorted(fields map[string]*thing) []string {
	number := func(s string) *big.Int {
		n, ok := new(big.Int).SetString(s, 10)
		if !ok || n.String() != s || n.Sign() <= 0 {
			return nil
		}
		return n
	}
	l := slices.Collect(maps.Keys(fields))
	sort.Slice(l, func(i, k int) bool {
		x, y := number(l[i]), number(l[k])
		if x != nil && y != nil {
			return x.Cmp(y) < 0
		}
		if x != nil || y != nil {
			return x != nil
		}
		return l[i] < l[k]
	})
	return l
}

// parts are a type's arguments or fields, in order.
func (x *thing) parts() []*thing {
	x = x.now()
	l := slices.Clone(x.args)
	for _, s := range x.labels() {
		l = append(l, x.fields[s])
	}
	return l
}

// enormous stands for all sizes that are greater.
const enormous = 1 << 40

func (x *thing) size(known map[*thing]int) int {
	x = x.now()
	if known[x] == 0 {
		n := 1
		for _, p := range x.parts() {
			n = min(enormous, n+p.size(known))
		}
		known[x] = n
	}
	return known[x]
}

func tooLarge(l ...*thing) bool {
	for _, x := range l {
		if x.size(map[*thing]int{}) > 2048 {
			return true
		}
	}
	return false
}

// all are a type's parts, written out.
func (x *thing) all() []*thing {
	x = x.now()
	l := []*thing{x}
	for _, p := range x.parts() {
		l = append(l, p.all()...)
	}
	return l
}

func (x *thing) free() []*thing {
	var l []*thing
	for _, p := range x.all() {
		if p.kind == api.YVar && !slices.Contains(l, p) {
			l = append(l, p)
		}
	}
	return l
}

func (w *world) equals(x *thing, known map[*thing]bool) bool {
	x = x.now()
	if ok, met := known[x]; met {
		return ok
	}
	ok := true
	for _, p := range x.parts() {
		ok = ok && w.equals(p, known)
	}
	switch x.kind {
	case api.YVar:
		ok = x.equal || x.rigid && strings.HasPrefix(x.name, "''")
	case api.YArrow:
		ok = false
	case api.YCon:
		e := w.cons[x.con].equal
		ok = e == api.Always || e == api.If && ok
	}
	known[x] = ok
	return ok
}

// turnEqual makes a type admit equality.
func (w *world) turnEqual(x *thing) api.Errno {
	x = x.now()
	switch {
	case x.kind == api.YVar && !x.rigid:
		x.equal = true
	case x.kind == api.YVar:
		if !strings.HasPrefix(x.name, "''") {
			return api.ErrEquality
		}
	case x.kind == api.YArrow:
		return api.ErrEquality
	case x.kind == api.YCon && w.cons[x.con].equal == api.Never:
		return api.ErrEquality
	case x.kind == api.YCon && w.cons[x.con].equal == api.Always:
		return api.OK
	}
	for _, p := range x.parts() {
		if e := w.turnEqual(p); e != api.OK {
			return e
		}
	}
	return api.OK
}

func (w *world) sink(x *thing, level int) api.Errno {
	for _, v := range x.free() {
		if v.level > level && v.rigid {
			return api.ErrRigid
		}
		v.level = min(v.level, level)
	}
	return api.OK
}

func (w *world) unify(s, t *thing) api.Errno {
	s, t = s.now(), t.now()
	if s == t {
		return api.OK
	}
	if tooLarge(s, t) {
		return api.ErrLong
	}
	loose := func(x *thing) bool { return x.kind == api.YVar && !x.rigid }
	var e api.Errno
	switch {
	case loose(s) && loose(t):
		e = w.unifyVars(s, t)
	case loose(s):
		e = w.unifyVar(s, t)
	case loose(t):
		e = w.unifyVar(t, s)
	case s.rigid || t.rigid:
		e = api.ErrRigid
	case s.kind != t.kind:
		e = api.ErrUnify
	case s.kind == api.YCon && s.con != t.con:
		e = api.ErrUnify
	case s.kind == api.YRec && !slices.Equal(s.labels(), t.labels()):
		e = api.ErrFields
	default:
		l := t.parts()
		for i, p := range s.parts() {
			if e := w.unify(p, l[i]); e != api.OK {
				return e
			}
		}
	}
	if e == api.OK && tooLarge(s, t) {
		return api.ErrLong
	}
	return e
}

func (w *world) unifyVars(s, t *thing) api.Errno {
	within := func(x, y *thing) bool { return slices.Contains(y.all()[1:], x) }
	if within(s, t) || within(t, s) {
		return api.ErrOccurs
	}
	if s.open && t.class != api.Any || t.open && s.class != api.Any {
		return api.ErrClass
	}
	one := thing{kind: api.YVar, equal: s.equal || t.equal, open: s.open || t.open, level: min(s.level, t.level), fields: map[string]*thing{}}
	for _, class := range []api.Class{api.Text, api.Num} { // the narrower one last
		if s.class == class || t.class == class {
			one.class = class
		}
	}
	maps.Copy(one.fields, t.fields)
	maps.Copy(one.fields, s.fields)
	old, other, labels := s.fields, t.fields, s.labels()
	*s, t.become = one, s
	for _, l := range labels {
		if f := other[l]; f != nil {
			if e := w.unify(old[l], f); e != api.OK {
				return e
			}
		}
	}
	if tooLarge(s) {
		return api.ErrLong
	}
	for _, f := range s.parts() {
		if !s.equal {
			break
		}
		if e := w.turnEqual(f); e != api.OK {
			return e
		}
	}
	for _, f := range s.parts() {
		if e := w.sink(f, s.level); e != api.OK {
			return e
		}
	}
	return api.OK
}

func (w *world) unifyVar(v, t *thing) api.Errno {
	if slices.Contains(t.all(), v) {
		return api.ErrOccurs
	}
	if v.open {
		if t.kind != api.YRec {
			return api.ErrUnify
		}
		for l := range v.fields {
			if t.fields[l] == nil {
				return api.ErrFields
			}
		}
		for _, l := range v.labels() {
			if e := w.unify(v.fields[l], t.fields[l]); e != api.OK {
				return e
			}
		}
		if tooLarge(t) {
			return api.ErrLong
		}
		if slices.Contains(t.all(), v) {
			return api.ErrOccurs
		}
	}
	classes := map[api.Class][]int{api.Num: {0, 1}, api.Text: {0, 1, 2, 3}}
	if v.class != api.Any && (t.kind != api.YCon || !slices.Contains(classes[v.class], t.con)) {
		return api.ErrClass
	}
	if v.equal {
		if e := w.turnEqual(t); e != api.OK {
			return e
		}
	}
	if e := w.sink(t, v.level); e != api.OK {
		return e
	}
	v.become = t
	return api.OK
}

// makeSame is Unify.
func (w *world) makeSame(s, t *thing) api.Errno {
	back := w.saved()
	e := w.unify(s, t)
	if e != api.OK {
		back()
	}
	return e
}

// plan is a scheme of the model.
type plan struct {
	vars []*thing
	is   *thing
}

// good tells whether it is a scheme: its variables are ones now, each once.
func (p plan) good() bool {
	var met []*thing
	for _, v := range append(slices.Clone(p.vars), p.is) {
		if v == nil {
			return false
		}
	}
	for _, v := range p.vars {
		if v.now().kind != api.YVar || slices.Contains(met, v.now()) {
			return false
		}
		met = append(met, v.now())
	}
	return true
}

func (p plan) tooLarge() bool { return tooLarge(p.is) || tooLarge(p.vars...) }

// at is the place of a type among a scheme's variables; -1: none.
func (p plan) at(x *thing) int {
	return slices.IndexFunc(p.vars, func(v *thing) bool { return v.now() == x.now() })
}

// with is the scheme's type with others in the place of its variables.
func (p plan) with(args []*thing) *thing { return p.turned(p.is, args) }

func (p plan) turned(x *thing, args []*thing) *thing {
	x = x.now()
	if i := p.at(x); i >= 0 {
		return args[i]
	}
	if x.kind == api.YVar {
		return x
	}
	return rebuilt(x, func(y *thing) *thing { return p.turned(y, args) })
}

// rebuilt is a type that is no variable, with its parts turned.
func rebuilt(x *thing, turn func(*thing) *thing) *thing {
	y := &thing{kind: x.kind, con: x.con}
	for _, a := range x.args {
		y.args = append(y.args, turn(a))
	}
	for s, f := range x.fields {
		if y.fields == nil {
			y.fields = map[string]*thing{}
		}
		y.fields[s] = turn(f)
	}
	return y
}

// replaced is a type with a scheme's type in the place of a constructor.
func replaced(x *thing, con int, by plan) *thing {
	x = x.now()
	if x.kind == api.YVar {
		return x
	}
	y := rebuilt(x, func(y *thing) *thing { return replaced(y, con, by) })
	if x.kind == api.YCon && x.con == con {
		return by.with(y.args)
	}
	return y
}

// instance is a scheme's type with new variables.
func (w *world) instance(p plan, level int) (*thing, []*thing) {
	var l []*thing
	for _, v := range p.vars {
		v = v.now()
		l = append(l, w.add(thing{level: level, equal: v.equal || v.rigid && strings.HasPrefix(v.name, "''")}))
	}
	return p.with(l), l
}

func (w *world) covers(s, t plan) bool {
	if !s.good() || !t.good() || s.tooLarge() || t.tooLarge() {
		return false
	}
	defer w.saved()()
	x, _ := w.instance(s, api.MaxLevel)
	for _, v := range t.vars {
		v = v.now()
		if v.rigid {
			continue
		}
		name := "'r"
		if v.equal {
			name = "''r"
		}
		*v = thing{kind: api.YVar, level: v.level, rigid: true, name: name}
	}
	return w.unify(x, t.is) == api.OK
}

// text is a type's text.
func (w *world) text(x *thing) string {
	names := map[*thing]string{}
	free := x.free()
	next := 0
	for _, v := range free {
		if v.rigid {
			names[v] = v.name
			continue
		}
		for {
			s := "'"
			if v.equal {
				s = "''"
			}
			s += string(rune('a' + next%26))
			if next >= 26 {
				s += strconv.Itoa(next / 26)
			}
			next++
			if !slices.ContainsFunc(free, func(r *thing) bool { return r.rigid && r.name == s }) {
				names[v] = s
				break
			}
		}
	}
	return w.write(x, names)
}

func (w *world) write(x *thing, names map[*thing]string) string {
	x = x.now()
	tuple := func(y *thing) bool {
		y = y.now()
		for i := range y.fields {
			if n, e := strconv.Atoi(i); e != nil || n < 1 || n > len(y.fields) || strconv.Itoa(n) != i {
				return false
			}
		}
		return y.kind == api.YRec && len(y.fields) > 1
	}
	in := func(y *thing, parentheses bool) string {
		if parentheses {
			return "(" + w.write(y, names) + ")"
		}
		return w.write(y, names)
	}
	arrow := func(y *thing) bool { return y.now().kind == api.YArrow }
	fastened := func(between string) string {
		var l []string
		for _, p := range x.parts() {
			l = append(l, in(p, arrow(p) || tuple(p)))
		}
		return strings.Join(l, between)
	}
	fields := func(last ...string) string {
		var l []string
		for _, s := range x.labels() {
			l = append(l, s+" : "+in(x.fields[s], false))
		}
		return "{" + strings.Join(append(l, last...), ", ") + "}"
	}
	switch {
	case x.kind == api.YVar && x.open:
		return fields(".. " + names[x])
	case x.kind == api.YVar:
		return names[x] + map[api.Class]string{api.Any: "", api.Num: "#", api.Text: "##"}[x.class]
	case x.kind == api.YArrow:
		return in(x.args[0], arrow(x.args[0])) + " -> " + in(x.args[1], false)
	case x.kind == api.YRec && len(x.fields) == 0:
		return "unit"
	case tuple(x):
		return fastened(" * ")
	case x.kind == api.YRec:
		return fields()
	}
	name := w.cons[x.con].name
	switch len(x.args) {
	case 0:
		return name
	case 1:
		return fastened("") + " " + name
	}
	return "(" + fastened(", ") + ") " + name
}
