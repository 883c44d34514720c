package elab

import (
	"slices"
	"strconv"
	"strings"

	"kiln/api"
	"kiln/names"
	"kiln/types"
)

// starter makes the first environment. It asks for no errors: what it makes is small, in a book that is new.
type starter struct {
	api.Env
	book *types.Book
}

// firstEnv is what an elaborator's names stand for at first.
func firstEnv(b *types.Book) names.Scope {
	s := starter{book: b}
	s.makeTypes()
	s.makeConstructors()
	s.makeExceptions()
	s.makeOperators()
	s.makePrim()
	return names.ScopeOf(s.Env)
}

func (s *starter) addVal(e api.Entry) { s.Vals = append(s.Vals, e) }

func (s *starter) addType(t api.Typ) { s.Types = append(s.Types, t) }

// typ is the type of a name.
func (s *starter) typ(name string) *api.Typ {
	return &s.Types[slices.IndexFunc(s.Types, func(t api.Typ) bool { return t.Name == name })]
}

// makeTypes makes the types, of datatypes without their constructors.
func (s *starter) makeTypes() {
	for con := range api.ConArray + 1 {
		s.makeType(con)
	}
	for arity, name := range []string{"bool", "list"} {
		con, _ := s.book.Con(name, arity, api.If)
		s.makeType(con)
	}
	unit, _ := s.book.Record(nil)
	s.addType(api.Typ{Name: "unit", Scheme: api.Scheme{Type: unit}})
}

// makeType makes a constructor's type, of as many variables as it takes.
func (s *starter) makeType(con int) {
	name, arity, _, _ := s.book.Named(con)
	var vars []int
	for range arity {
		v, _ := s.book.Var(0, false, api.Any)
		vars = append(vars, v)
	}
	t, _ := s.book.Apply(con, vars...)
	s.addType(api.Typ{Name: name, Scheme: api.Scheme{Vars: vars, Type: t}})
}

// makeConstructors makes the constructors; those of bool and list are known of their types, too.
func (s *starter) makeConstructors() {
	for _, c := range []struct {
		name, text, of string
		tag, count     int
	}{
		{"false", "bool", "bool", 0, 2},
		{"true", "bool", "bool", 1, 2},
		{"nil", "'a list", "list", 1, 2},
		{"::", "'a * 'a list -> 'a list", "list", 0, 2},
		{"ref", "'a -> 'a ref", "ref", 0, 1},
	} {
		typ := s.typ(c.of)
		of, _ := s.book.Look(typ.Scheme.Type)
		e := api.Entry{Name: c.name, Is: api.SCon, Scheme: s.scheme(c.text, api.Any), Con: of.Con, Tag: c.tag, Count: c.count}
		e.Arg = strings.Contains(c.text, "->")
		s.addVal(e)
		if of.Con != api.ConRef {
			typ.Cons = append(typ.Cons, e)
		}
	}
}

func (s *starter) makeExceptions() {
	for i, name := range []string{"Bind", "Chr", "Div", "Domain", "Match", "Overflow", "Size", "Subscript"} {
		s.addVal(api.Entry{Name: name, Is: api.SExn, Scheme: s.scheme("exn", api.Any), At: api.Access{Id: api.XBind + i}})
	}
}

// makeOperators makes those primitives that are known by names of their own.
func (s *starter) makeOperators() {
	for _, p := range []struct {
		names, text string
		class       api.Class
	}{
		{"+ - *", "'a * 'a -> 'a", api.Num},
		{"~ abs", "'a -> 'a", api.Num},
		{"< > <= >=", "'a * 'a -> bool", api.Text},
		{"div mod", "int * int -> int", api.Any},
		{"/", "real * real -> real", api.Any},
		{"= <>", "''a * ''a -> bool", api.Any},
		{"!", "'a ref -> 'a", api.Any},
		{":=", "'a ref * 'a -> unit", api.Any},
	} {
		for _, name := range strings.Fields(p.names) {
			s.addVal(api.Entry{Name: name, Is: api.SPrim, Scheme: s.scheme(p.text, p.class)})
		}
	}
}

// makePrim makes the structure of all primitives that are not overloaded.
func (s *starter) makePrim() {
	var inside api.Env
	for _, p := range api.Prims() {
		if p.Con == -1 {
			inside.Vals = append(inside.Vals, api.Entry{Name: p.Name, Is: api.SPrim, Scheme: s.scheme(p.Type, api.Any)})
		}
	}
	s.Strs = append(s.Strs, api.Str{Name: "Prim", Env: inside})
}

// scheme is the scheme of a type that is written without parentheses, over its type variables, which are of a class.
func (s *starter) scheme(text string, class api.Class) api.Scheme {
	r := reader{starter: s, class: class, vars: map[string]int{}}
	t := r.arrow(text)
	return api.Scheme{Vars: r.order, Type: t}
}

// reader reads a type that is written.
type reader struct {
	*starter
	class api.Class
	vars  map[string]int
	order []int // the variables, as they first stand
}

func (r *reader) arrow(text string) int {
	from, to, ok := strings.Cut(text, " -> ")
	if !ok {
		return r.tuple(text)
	}
	left := r.tuple(from)
	t, _ := r.book.Arrow(left, r.arrow(to))
	return t
}

func (r *reader) tuple(text string) int {
	parts := strings.Split(text, " * ")
	if len(parts) == 1 {
		return r.application(text)
	}
	var labels []string
	var args []int
	for i, p := range parts {
		labels, args = append(labels, strconv.Itoa(i+1)), append(args, r.application(p))
	}
	t, _ := r.book.Record(labels, args...)
	return t
}

func (r *reader) application(text string) int {
	words := strings.Fields(text)
	t := r.word(words[0])
	for _, w := range words[1:] {
		t = r.named(w, t)
	}
	return t
}

func (r *reader) word(w string) int {
	if !strings.HasPrefix(w, "'") {
		return r.named(w)
	}
	v, ok := r.vars[w]
	if !ok {
		v, _ = r.book.Var(0, isEqual(w), r.class)
		r.vars[w], r.order = v, append(r.order, v)
	}
	return v
}

// named is the type of a name, with its arguments.
func (r *reader) named(name string, args ...int) int {
	t, _ := r.book.Put(r.typ(name).Scheme, args...)
	return t
}

// isEqual tells whether a type variable's name is one of types that admit equality.
func isEqual(tyvar string) bool { return strings.HasPrefix(tyvar, "''") }
