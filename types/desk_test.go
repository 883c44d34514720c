package types

import (
	"fmt"
	"reflect"
	"slices"
	"strings"
	"testing"

	"kiln/api"
)

// desk is a book with names for some of its types and constructors, so that tests can write types down.
type desk struct {
	t     testing.TB
	b     *Book
	types map[string]int
	cons  map[string]int
}

// newDesk is one with the constructors that each book has, and list and t (one argument, If), pair (two, If), fun (one, Never), box (two, Always), no (none, Never).
func newDesk(t testing.TB) *desk {
	d := &desk{t, New(), map[string]int{}, map[string]int{}}
	for c := range 7 {
		name, _, _, _ := d.b.Named(c)
		d.cons[name] = c
	}
	d.con("list", 1, api.If)
	d.con("t", 1, api.If)
	d.con("pair", 2, api.If)
	d.con("fun", 1, api.Never)
	d.con("box", 2, api.Always)
	d.con("no", 0, api.Never)
	return d
}

// ok fails if there is an error.
func (d *desk) ok(e api.Errno) {
	d.t.Helper()
	if e != api.OK {
		d.t.Fatalf("error %d", e)
	}
}

func (d *desk) con(name string, arity int, equal api.Equality) int {
	d.t.Helper()
	c, e := d.b.Con(name, arity, equal)
	d.ok(e)
	d.cons[name] = c
	return c
}

// vars names new variables of level 1, by names with blanks between.
func (d *desk) vars(names string) {
	d.t.Helper()
	for _, s := range strings.Fields(names) {
		d.v(s, 1, false, api.Any)
	}
}

func (d *desk) v(name string, level int, equal bool, class api.Class) int {
	d.t.Helper()
	v, e := d.b.Var(level, equal, class)
	d.ok(e)
	d.types[name] = v
	return v
}

// rigid names a rigid variable by its own name.
func (d *desk) rigid(name string, level int) int {
	d.t.Helper()
	v, e := d.b.Rigid(level, name)
	d.ok(e)
	d.types[name] = v
	return v
}

// open names an open variable with the fields of a record.
func (d *desk) open(name string, level int, record string) int {
	d.t.Helper()
	r, _ := d.b.Look(d.ty(record))
	if r.Kind != api.YRec {
		d.t.Fatalf("%s is no record", record)
	}
	v, e := d.b.Open(level, r.Labels, r.Args...)
	d.ok(e)
	d.types[name] = v
	return v
}

// is names a type.
func (d *desk) is(name, text string) int {
	d.t.Helper()
	d.types[name] = d.ty(text)
	return d.types[name]
}

// ty is the type that a text says, in the names of the desk.
func (d *desk) ty(text string) int {
	d.t.Helper()
	for _, s := range []string{"(", ")", "{", "}", ",", ":", "*", "->"} {
		text = strings.ReplaceAll(text, s, " "+s+" ")
	}
	r := reader{d, strings.Fields(strings.ReplaceAll(text, "- >", "->"))}
	t := r.arrow()
	if len(r.words) > 0 {
		d.t.Fatalf("%s: %v is left", text, r.words)
	}
	return t
}

// reader reads types.
type reader struct {
	*desk
	words []string
}

func (r *reader) take(s string) bool {
	if len(r.words) == 0 || r.words[0] != s {
		return false
	}
	r.words = r.words[1:]
	return true
}

func (r *reader) next() string {
	if len(r.words) == 0 {
		r.t.Fatal("a type ends too early")
	}
	s := r.words[0]
	r.words = r.words[1:]
	return s
}

func (r *reader) arrow() int {
	from := r.tuple()
	if !r.take("->") {
		return from
	}
	t, e := r.b.Arrow(from, r.arrow())
	r.ok(e)
	return t
}

func (r *reader) tuple() int {
	l := []int{r.applied()}
	for r.take("*") {
		l = append(l, r.applied())
	}
	if len(l) == 1 {
		return l[0]
	}
	t, e := r.b.Record(numbers(len(l)), l...)
	r.ok(e)
	return t
}

func (r *reader) applied() int {
	args := r.atom()
	for len(r.words) > 0 {
		c, ok := r.cons[r.words[0]]
		if !ok {
			break
		}
		r.next()
		t, e := r.b.Apply(c, args...)
		r.ok(e)
		args = []int{t}
	}
	if len(args) != 1 {
		r.t.Fatalf("%d types where one must be", len(args))
	}
	return args[0]
}

// atom is types in parentheses, or one that needs none; or none, ahead of a constructor without arguments.
func (r *reader) atom() []int {
	switch {
	case r.take("("):
		l := []int{r.arrow()}
		for r.take(",") {
			l = append(l, r.arrow())
		}
		if !r.take(")") {
			r.t.Fatalf("no parenthesis ahead of %v", r.words)
		}
		return l
	case r.take("{"):
		return []int{r.record()}
	case len(r.words) > 0:
		if _, ok := r.cons[r.words[0]]; ok {
			return nil
		}
	}
	s := r.next()
	if s == "unit" {
		t, e := r.b.Record(nil)
		r.ok(e)
		return []int{t}
	}
	t, ok := r.types[s]
	if !ok {
		r.t.Fatalf("%s is no type", s)
	}
	return []int{t}
}

func (r *reader) record() int {
	var labels []string
	var types []int
	for !r.take("}") {
		labels = append(labels, r.next())
		if !r.take(":") {
			r.t.Fatalf("no colon ahead of %v", r.words)
		}
		types = append(types, r.arrow())
		r.take(",")
	}
	t, e := r.b.Record(labels, types...)
	r.ok(e)
	return t
}

// numbers are the labels of a tuple.
func numbers(n int) []string {
	var l []string
	for i := range n {
		l = append(l, fmt.Sprint(i+1))
	}
	return l
}

// text is the text of a type, which it must have.
func (d *desk) text(t int) string {
	d.t.Helper()
	s, e := d.b.Text(t)
	d.ok(e)
	return s
}

// says fails if a type has another text.
func (d *desk) says(ty, want string) {
	d.t.Helper()
	if s := d.text(d.ty(ty)); s != want {
		d.t.Errorf("%s: %s; want %s", ty, s, want)
	}
}

// unify makes two types the same, which must go.
func (d *desk) unify(s, t string) {
	d.t.Helper()
	if e := d.b.Unify(d.ty(s), d.ty(t)); e != api.OK {
		d.t.Errorf("Unify(%s, %s): %d", s, t, e)
	}
}

// refuses fails if two types can be made the same in one of both ways, if another error is told, or if something has changed.
func (d *desk) refuses(s, t string, want api.Errno) {
	d.t.Helper()
	x, y := d.ty(s), d.ty(t)
	before := photo(d.b)
	if e := d.b.Unify(x, y); e != want {
		d.t.Errorf("Unify(%s, %s): %d; want %d", s, t, e, want)
	}
	if e := d.b.Unify(y, x); e != want {
		d.t.Errorf("Unify(%s, %s): %d; want %d", t, s, e, want)
	}
	if !reflect.DeepEqual(photo(d.b), before) {
		d.t.Errorf("Unify(%s, %s): something has changed", s, t)
	}
}

// shot is what is told of a type, and which one it is.
type shot struct {
	api.Type
	is int
}

// photo is what a book tells of all its types.
func photo(b *Book) []shot {
	var l []shot
	for t := 0; ; t++ {
		told, ok := b.Look(t)
		if !ok {
			return l
		}
		l = append(l, shot{told, b.now(t)})
	}
}

// look is what is told of a type, which the book must have.
func (d *desk) look(ty string) api.Type {
	d.t.Helper()
	told, ok := d.b.Look(d.ty(ty))
	if !ok {
		d.t.Fatalf("Look(%s): false", ty)
	}
	return told
}

// tells fails if something else is told of a type.
func (d *desk) tells(ty string, want api.Type) {
	d.t.Helper()
	if told := d.look(ty); !sameType(told, want) {
		d.t.Errorf("Look(%s): %+v; want %+v", ty, told, want)
	}
}

func sameType(x, y api.Type) bool {
	if !slices.Equal(x.Labels, y.Labels) || !slices.Equal(x.Args, y.Args) {
		return false
	}
	x.Labels, x.Args, y.Labels, y.Args = nil, nil, nil, nil
	return reflect.DeepEqual(x, y)
}

// wide is a tuple of a type n times, whose size is n times the type's and 1.
func (d *desk) wide(n int, ty string) int {
	d.t.Helper()
	t, e := d.b.Record(numbers(n), slices.Repeat([]int{d.ty(ty)}, n)...)
	d.ok(e)
	return t
}

// deep is a type n times in a list, whose size is n and the type's.
func (d *desk) deep(n int, ty string) int {
	d.t.Helper()
	t := d.ty(ty)
	for range n {
		var e api.Errno
		t, e = d.b.Apply(d.cons["list"], t)
		d.ok(e)
	}
	return t
}

// huge names a type that is larger than one may be, of a variable that is named, too: a tuple of it 100 times, where it has become one of int 100 times.
func (d *desk) huge(name, variable string) {
	d.t.Helper()
	d.vars(variable)
	d.types[name] = d.wide(100, variable)
	d.ok(d.b.Unify(d.types[variable], d.wide(100, "int")))
}

// scheme is one of variables, by names with blanks between, and a type.
func (d *desk) scheme(vars, ty string) api.Scheme {
	d.t.Helper()
	s := api.Scheme{Type: d.ty(ty)}
	for _, v := range strings.Fields(vars) {
		s.Vars = append(s.Vars, d.types[v])
	}
	return s
}
