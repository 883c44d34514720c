package elab

import (
	"math/rand"
	"strings"
)

// scribe writes programs at random: most of them right, some not.
type scribe struct {
	*rand.Rand
	vals []known // variables in scope, with the types that they should have
	deep int
}

// known is a name with a type.
type known struct {
	name string
	t    *plan
}

// plan is a type that an expression should have.
type plan struct {
	is   string // int real string char bool unit exn list ref pair fn data record any
	args []*plan
}

func (p *plan) text() string {
	switch p.is {
	case "list", "ref":
		return "(" + p.args[0].text() + ") " + p.is
	case "data":
		return "(" + p.args[0].text() + ") M.opt"
	case "pair":
		return "(" + p.args[0].text() + " * " + p.args[1].text() + ")"
	case "record":
		return "{a : " + p.args[0].text() + ", b : " + p.args[1].text() + "}"
	case "fn":
		return "(" + p.args[0].text() + " -> " + p.args[1].text() + ")"
	}
	return p.is
}

func (p *plan) same(q *plan) bool {
	if p.is != q.is {
		return false
	}
	for i := range p.args {
		if !p.args[i].same(q.args[i]) {
			return false
		}
	}
	return true
}

// one picks a text.
func (s *scribe) one(l ...string) string { return l[s.Intn(len(l))] }

// plan is a type at random.
func (s *scribe) plan(depth int) *plan {
	if depth <= 0 || s.Intn(3) == 0 {
		return &plan{is: s.one("int", "int", "real", "string", "char", "bool", "unit", "exn")}
	}
	switch k := s.one("list", "ref", "pair", "fn", "fn", "data", "record"); k {
	case "list", "ref", "data":
		return &plan{k, []*plan{s.plan(depth - 1)}}
	default:
		return &plan{k, []*plan{s.plan(depth - 1), s.plan(depth - 1)}}
	}
}

// exp is an expression that should have a type; now and then one that has another.
func (s *scribe) exp(t *plan, depth int) string {
	if s.Intn(60) == 0 {
		t = s.plan(2)
	}
	if s.Intn(80) == 0 {
		return s.one("nobody", "M.nobody", "N.x", "99999999999999999999", "op +", "nil", "ref", "(fn {a, ...} => a)", "(fn x => x x)", "M.K.w", "it")
	}
	if depth <= 0 {
		return s.atom(t)
	}
	switch s.Intn(16) {
	case 0, 1, 2:
		return s.atom(t)
	case 3:
		return "(" + s.exp(t, depth-1) + " : " + t.text() + ")"
	case 4:
		return "(if " + s.exp(&plan{is: "bool"}, depth-1) + " then " + s.exp(t, depth-1) + " else " + s.exp(t, depth-1) + ")"
	case 5:
		of := s.plan(1)
		return "(" + s.fn(of, t, depth-1) + " " + s.exp(of, depth-1) + ")"
	case 6:
		of := s.plan(2)
		return "(case " + s.exp(of, depth-1) + " of " + s.rules(of, t, depth-1) + ")"
	case 7, 8:
		return s.let(t, depth-1)
	case 9:
		return "(" + s.exp(t, depth-1) + " handle " + s.rules(&plan{is: "exn"}, t, depth-1) + ")"
	case 10:
		return "(raise " + s.exp(&plan{is: "exn"}, depth-1) + ")"
	case 11:
		return "(" + s.one("M.id", "M.K.same", "(fn x => x)") + " " + s.exp(t, depth-1) + ")"
	case 12:
		return "(" + s.one("#1", "(fn (x, _) => x)") + " " + s.exp(&plan{"pair", []*plan{t, s.plan(1)}}, depth-1) + ")"
	case 13:
		return "(#b " + s.exp(&plan{"record", []*plan{s.plan(1), t}}, depth-1) + ")"
	case 14:
		return "(! " + s.exp(&plan{"ref", []*plan{t}}, depth-1) + ")"
	}
	return s.form(t, depth-1)
}

// form is an expression that makes a value of a type.
func (s *scribe) form(t *plan, depth int) string {
	switch t.is {
	case "int", "real":
		return "(" + s.exp(t, depth) + s.one(" + ", " - ", " * ") + s.exp(t, depth) + ")"
	case "bool":
		of := &plan{is: s.one("int", "real", "string", "char")}
		if s.Intn(3) == 0 {
			of = s.plan(1)
			return "(" + s.exp(of, depth) + s.one(" = ", " <> ") + s.exp(of, depth) + ")"
		}
		return "(" + s.exp(of, depth) + s.one(" < ", " > ", " <= ", " >= ") + s.exp(of, depth) + ")"
	case "unit":
		of := s.plan(1)
		return "(" + s.exp(&plan{"ref", []*plan{of}}, depth) + " := " + s.exp(of, depth) + ")"
	case "list":
		return "(" + s.exp(t.args[0], depth) + " :: " + s.exp(t, depth) + ")"
	case "ref":
		return "(ref " + s.exp(t.args[0], depth) + ")"
	case "data":
		return "(M.SOME " + s.exp(t.args[0], depth) + ")"
	case "pair":
		return "(" + s.exp(t.args[0], depth) + ", " + s.exp(t.args[1], depth) + ")"
	case "record":
		return "{b = " + s.exp(t.args[1], depth) + ", a = " + s.exp(t.args[0], depth) + "}"
	case "fn":
		return s.fn(t.args[0], t.args[1], depth)
	case "exn":
		return "(M.X " + s.exp(&plan{is: "int"}, depth) + ")"
	}
	return s.atom(t)
}

// atom is a small expression of a type: a name in scope, if there is one.
func (s *scribe) atom(t *plan) string {
	if s.Intn(3) > 0 {
		for range 4 {
			if len(s.vals) == 0 {
				break
			}
			if k := s.vals[s.Intn(len(s.vals))]; k.t.same(t) {
				return k.name
			}
		}
	}
	switch t.is {
	case "int":
		return s.one("1", "2", "~3", "M.n")
	case "real":
		return s.one("1.5", "2.0")
	case "string":
		return s.one("\"\"", "\"a\"")
	case "char":
		return "#\"a\""
	case "bool":
		return s.one("true", "false")
	case "unit":
		return "()"
	case "list":
		return s.one("nil", "[]")
	case "data":
		return "M.NONE"
	case "exn":
		return s.one("Div", "M.Y", "M.K.Z")
	case "fn":
		if t.args[0].same(t.args[1]) && s.Intn(2) == 0 {
			return s.one("M.id", "(fn x => x)", "M.K.same")
		}
		return "(fn _ => " + s.atom(t.args[1]) + ")"
	case "pair":
		return "(" + s.atom(t.args[0]) + ", " + s.atom(t.args[1]) + ")"
	case "record":
		return "{a = " + s.atom(t.args[0]) + ", b = " + s.atom(t.args[1]) + "}"
	}
	return "(ref " + s.atom(t.args[0]) + ")"
}

// fn is a function.
func (s *scribe) fn(from, to *plan, depth int) string {
	return "(fn " + s.rules(from, to, depth) + ")"
}

func (s *scribe) rules(from, to *plan, depth int) string {
	var l []string
	for range 1 + s.Intn(2) {
		before := len(s.vals)
		p := s.pat(from, 2)
		l = append(l, p+" => "+s.exp(to, depth))
		s.vals = s.vals[:before]
	}
	return strings.Join(l, " | ")
}

// pat is a pattern for a type; what it binds is in scope.
func (s *scribe) pat(t *plan, depth int) string {
	if s.Intn(50) == 0 {
		return s.one("_", "x", "nil", "M.SOME", "M.q", "op ::", "1", "nobody y", "M.Y", "(x, x)", "{a, ...}")
	}
	if depth <= 0 || s.Intn(4) == 0 {
		return s.bindPat(t)
	}
	switch s.Intn(8) {
	case 0:
		return "_"
	case 1:
		return "(" + s.pat(t, depth-1) + " : " + t.text() + ")"
	case 2:
		name := s.bindPat(t)
		return "(" + name + " as " + s.pat(t, depth-1) + ")"
	}
	switch t.is {
	case "int":
		return s.one("1", "~2", "0x3")
	case "string":
		return "\"a\""
	case "char":
		return "#\"b\""
	case "bool":
		return s.one("true", "false")
	case "unit":
		return "()"
	case "exn":
		if s.Intn(2) == 0 {
			return "(M.X " + s.pat(&plan{is: "int"}, depth-1) + ")"
		}
		return s.one("Div", "M.Y", "M.K.Z", "_")
	case "list":
		if s.Intn(3) == 0 {
			return "nil"
		}
		return "(" + s.pat(t.args[0], depth-1) + " :: " + s.pat(t, depth-1) + ")"
	case "ref":
		return "(ref " + s.pat(t.args[0], depth-1) + ")"
	case "data":
		if s.Intn(3) == 0 {
			return "M.NONE"
		}
		return "(M.SOME " + s.pat(t.args[0], depth-1) + ")"
	case "pair":
		return "(" + s.pat(t.args[0], depth-1) + ", " + s.pat(t.args[1], depth-1) + ")"
	case "record":
		if s.Intn(3) == 0 {
			return "{b = " + s.pat(t.args[1], depth-1) + ", ...}"
		}
		return "{b = " + s.pat(t.args[1], depth-1) + ", a = " + s.pat(t.args[0], depth-1) + "}"
	}
	return s.bindPat(t)
}

// bindPat binds a name.
func (s *scribe) bindPat(t *plan) string {
	s.deep++
	name := s.one("x", "y", "z", "u", "v") + s.one("", "", "1", "2", "3", "4", "5", "6", "7", "8", "9")
	s.vals = append(s.vals, known{name, t})
	return name
}

func (s *scribe) let(t *plan, depth int) string {
	before := len(s.vals)
	var l []string
	for range 1 + s.Intn(2) {
		l = append(l, s.dec(depth))
	}
	text := "(let " + strings.Join(l, " ") + " in " + s.exp(t, depth) + " end)"
	s.vals = s.vals[:before]
	return text
}

// dec is a declaration; what it declares is in scope.
func (s *scribe) dec(depth int) string {
	switch s.Intn(16) {
	case 0, 1, 2, 3:
		t := s.plan(2)
		e := s.exp(t, depth)
		return "val " + s.pat(t, 2) + " = " + e
	case 4:
		t, u := s.plan(2), s.plan(2)
		e, f := s.exp(t, depth), s.exp(u, depth)
		return "val " + s.bindPat(t) + " = " + e + " and " + s.pat(u, 1) + " = " + f
	case 5, 6:
		return s.fun(depth)
	case 7:
		return s.one("type t = int", "type 'a t = 'a * int", "type ('a, ''b) t = 'a -> ''b", "type t = M.n", "type t = int and u = t", "type u = int M.opt")
	case 8, 9:
		return s.data()
	case 10:
		return s.one("datatype d = datatype bool", "datatype d = datatype M.opt", "datatype d = datatype d", "datatype d = datatype M.nobody")
	case 11:
		return s.one("exception E", "exception E of int and F", "exception E = Div", "exception F = E", "exception E of 'a", "exception E of M.n", "exception F = M.X and E = M.K.Z")
	case 12:
		before := len(s.vals)
		inner := s.dec(depth - 1)
		mid := len(s.vals)
		outer := s.dec(depth - 1)
		s.vals = append(s.vals[:before], s.vals[mid:]...)
		return "local " + inner + " in " + outer + " end"
	case 13:
		return s.one("open M", "open M.K", "open M K", "open Prim", "open N", "open M.L")
	case 14:
		return s.one("val f = fn x => x", "val g = fn x => x + x", "val r = ref nil", "val q = fn (x : 'a) => [x]", "val h = M.id M.id", "fun f (x : 'a) y = (x, y : 'b)", "val (f, g) = (fn x => x, fn y => y + 1.0)")
	}
	return s.loose(depth)
}

// loose are declarations of names that no plan knows the type of.
func (s *scribe) loose(depth int) string {
	return s.one(
		"val f = fn x => let val y = (x, nil) in y end",
		"val k = fn x => fn y => if x = y then x else y",
		"val it = let datatype d = D | C of int in "+s.one("1", "D", "(fn C n => n | D => 2) (C 3)")+" end",
		"val w = fn x => let datatype d = D in (x = D; "+s.exp(s.plan(1), depth-1)+") end",
		"fun f x = let val g = fn y => (x, y) in (g 1, g x) end",
		"fun even 0 = true | even n = odd (n - 1) and odd 0 = false | odd n = even (n - 1)",
		"val p = fn {a, b} => fn {a = c, ...} => c",
		"val s = fn x => (x := 1.0; !x * 2.0)",
		"val m = let val r = ref (fn x => x) in (r := "+s.one("(fn x => x + 1)", "(fn x => x)", "M.id")+"; r) end",
		"val a = [fn x => x, fn y => y + 1]",
		"val (c : 'a list ref) = ref nil",
		"val r = ref nil val l = M.id (fn x => x)",
		"val o = (M.K.w := ["+s.exp(s.plan(1), 1)+"], "+s.one("1", "nobody", "true + 1", "M.K.w := ["+s.exp(s.plan(1), 1)+"]", "M.K.w", "r", "l M.K.w")+")",
		"val o = (r := ["+s.exp(s.plan(1), 1)+"], "+s.one("2", "nobody", "r", "!r = !M.K.w", "l")+")",
		"local open M.K val y = w in val o = (y, "+s.one("1", "nobody", "w := [y]", "w := [2]", "l y")+") end",
		"val o = let datatype d = D in ("+s.one("M.K.w := [D]", "r := [D]", "l D", "M.id D", "[D]")+"; 1) end",
		"fun f (x : 'a) = ("+s.one("x", "[x]", "1", "x = x", "(x : 'b)")+", x)",
		"fun f (x : ''a) = x = x",
		"val b = fn (x : 'a) => let fun g (y : 'a) = y in "+s.one("g x", "g 1", "(g, x)")+" end",
		"val b = fn x => let fun g (y : 'a) = "+s.one("y", "if true then x else y", "x", "(x, y)")+" in g end",
		"val e = (let fun g (y : 'a) = y in "+s.one("g 1", "g")+" end, fn (x : 'a) => x)",
		"val q = fn x => (x = x, x"+s.one(" + 1.0", " + 1", " < #\"a\"", " 1", "")+")",
		"val x = #\"a\" + "+s.one("#\"b\"", "1"),
		"val z = fn (x : 'a) => let exception E of 'a in raise E "+s.one("x", "1")+" end",
	)
}

func (s *scribe) fun(depth int) string {
	from, to := s.plan(1), s.plan(1)
	t := &plan{"fn", []*plan{from, to}}
	name := s.bindPat(t)
	before := len(s.vals)
	p := s.pat(from, 2)
	e := s.exp(to, depth)
	s.vals = s.vals[:before]
	text := "fun " + name + " " + p + s.one("", " : "+to.text()) + " = " + e
	if s.Intn(4) == 0 {
		other := s.bindPat(t)
		text += " and " + other + " x = " + name + " x"
	}
	return text
}

func (s *scribe) data() string {
	return s.one(
		"datatype d = D | C of int",
		"datatype 'a d = D of 'a * 'a d | C",
		"datatype d = D of d -> d",
		"datatype d = D of e and e = E of d | C of real",
		"datatype d = D of e ref and e = C of real * d",
		"datatype ('a, 'b) d = D of 'a list | C of 'b M.opt and 'a e = E of ('a, int -> int) d",
		"datatype 'a d = D of 'a and e = C of real d",
		"datatype d = D of f",
		"datatype ''a d = D of ''a | C of ''a d",
		"datatype d = D of e and e = C of g and g = G of d * int",
		"datatype d = D of e and e = C of g and g = G of d * exn",
	)
}

// program is some declarations.
func (s *scribe) program() []string {
	var l []string
	for range 3 + s.Intn(6) {
		l = append(l, s.dec(1+s.Intn(4)))
	}
	return l
}
