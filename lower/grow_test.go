package lower

import (
	"math/rand"
	"slices"
	"strconv"
	"strings"
)

// The types of what is grown at random, as they are written.
const (
	gInt   = "int"
	gStr   = "string"
	gBool  = "bool"
	gChar  = "char"
	gReal  = "real"
	gUnit  = "unit"
	gPair  = "int * string"
	gRec   = "{b : string, a : int, 10 : bool, 9 : char}"
	gList  = "int list"
	gPairs = "(int * string) list"
	gTree  = "tree"
	gFun   = "int -> int"
	gAct   = "int list -> string"
	gRef   = "int ref"
	gArr   = "string array"
	gExn   = "exn"
)

func types() []string {
	return []string{gInt, gStr, gBool, gChar, gReal, gUnit, gPair, gRec, gList, gPairs, gTree, gFun, gAct, gRef, gArr, gExn}
}

// first is what stands ahead of each text that is grown.
const first = `datatype tree = Leaf | Node of tree * int * tree | Mark of {l : int, r : string} | Wrap of wrap and wrap = Only of tree
exception E exception F of int exception G of string * int
`

// name is a name with its type; of an exception that of its argument, or "".
type name struct {
	text, t string
	exn     bool
}

// grower grows texts of programs.
type grower struct {
	r     *rand.Rand
	scope []name
	count int
	fcts  []string // functors that take what parameter says
}

func newGrower(seed int64) *grower {
	g := &grower{r: rand.New(rand.NewSource(seed))}
	g.scope = []name{{"E", "", true}, {"F", gInt, true}, {"G", "string * int", true}, {"Div", "", true}, {"Subscript", "", true}, {"Match", "", true}}
	return g
}

func (g *grower) any(l ...string) string { return l[g.r.Intn(len(l))] }

// form is one of some texts, in which something of the type stands where the type does between two back quotes.
func (g *grower) form(sub func(string) string, l ...string) string {
	pieces := strings.Split(g.any(l...), "`")
	for i := 1; i < len(pieces); i += 2 {
		pieces[i] = sub(pieces[i])
	}
	return strings.Join(pieces, "")
}

func (g *grower) odds(n int) bool  { return g.r.Intn(n) == 0 }
func (g *grower) someType() string { return g.any(types()...) }

// add puts a name into the scope: of equal ones the last one counts.
func (g *grower) add(n name) {
	g.scope = slices.DeleteFunc(g.scope, func(o name) bool { return o.text == n.text })
	g.scope = append(g.scope, n)
}

// within does something in a scope of its own.
func (g *grower) within(f func()) {
	before := slices.Clone(g.scope)
	f()
	g.scope = before
}

func (g *grower) fresh(letter string) string {
	g.count++
	return letter + strconv.Itoa(g.count%40)
}

// known are the names of a type, or the exceptions.
func (g *grower) known(t string, exn bool) []name {
	var l []name
	for _, n := range g.scope {
		if n.exn == exn && (exn || n.t == t) {
			l = append(l, n)
		}
	}
	return l
}

// exp is an expression of a type, in parentheses where it needs any.
func (g *grower) exp(t string, deep int) string {
	if l := g.known(t, false); len(l) > 0 && g.r.Intn(3) == 0 {
		return l[g.r.Intn(len(l))].text
	}
	if deep <= 0 {
		return g.leaf(t)
	}
	deep--
	sub := func(t string) string { return g.exp(t, deep-g.r.Intn(2)) }
	switch g.r.Intn(18) {
	case 0, 1:
		return g.form(sub, "(if `bool` then `"+t+"` else `"+t+"`)")
	case 2, 3:
		s := g.someType()
		return g.form(sub, "(case `"+s+"` of "+g.rules(s, t, deep)+")")
	case 4:
		s := ""
		g.within(func() { s = "let " + g.decs(1+g.r.Intn(2), deep) + " in " + g.exp(t, deep) + " end" })
		return s
	case 5:
		return g.form(sub, "(`"+t+"` handle "+g.rules(gExn, t, deep)+")")
	case 6:
		if g.odds(2) {
			return g.form(sub, "(raise `exn`)")
		}
	case 7:
		return g.form(sub, "("+g.effect(deep)+"; `"+t+"`)")
	case 8:
		return g.form(sub, "(`"+t+"` : "+t+")")
	case 9:
		s := g.someType()
		return g.form(sub, "((fn "+g.rules(s, t, deep)+") `"+s+"`)")
	case 10:
		switch t {
		case gInt:
			return g.form(sub, "(#1 `int * string`)", "(#a `{b : string, a : int, 10 : bool, 9 : char}`)", "(!`int ref`)", "(`int -> int` `int`)")
		case gStr:
			return g.form(sub, "(#2 `int * string`)", "(#b `{b : string, a : int, 10 : bool, 9 : char}`)", "(`int list -> string` `int list`)", "(Prim.get (`string array`, `int`))")
		}
	}
	return g.own(t, sub, deep)
}

func (g *grower) constant(t string) string {
	switch t {
	case gInt:
		return g.any("0", "0", "1", "1", "2", "3", "~1", "7", "0x10", "4611686018427387903", "~4611686018427387904")
	case gStr:
		return g.any(`""`, `"a"`, `"b\n"`, `"12x"`, `"~1.5E2"`)
	case gChar:
		return g.any(`#"a"`, `#"b"`, `#"\000"`, `#"\255"`)
	case gReal:
		return g.any("0.0", "1.5", "~2.25E2", "1E400", "3.0E~1")
	}
	return g.any("true", "false")
}

func (g *grower) leaf(t string) string {
	switch t {
	case gInt, gStr, gBool, gChar, gReal:
		return g.constant(t)
	case gUnit:
		return "()"
	case gPair:
		return "(" + g.leaf(gInt) + ", " + g.leaf(gStr) + ")"
	case gRec:
		return "{a = " + g.leaf(gInt) + ", 10 = " + g.leaf(gBool) + ", b = " + g.leaf(gStr) + ", 9 = " + g.leaf(gChar) + "}"
	case gList, gPairs:
		return "nil"
	case gTree:
		return "Leaf"
	case gFun:
		return g.any("(fn x => x)", "~", "(fn x => x + 1)", "abs", "(fn 0 => 1)")
	case gAct:
		return `(fn nil => "nil" | _ => "some")`
	case gRef:
		return "(ref " + g.leaf(gInt) + ")"
	case gArr:
		return "(Prim.array (" + g.any("0", "1", "3") + ", " + g.leaf(gStr) + "))"
	}
	return g.any("E", "(F 1)", `(G ("a", 2))`, "Div", "Overflow")
}

// own is what makes something of a type.
func (g *grower) own(t string, sub func(string) string, deep int) string {
	switch t {
	case gInt:
		return g.ofInt(sub)
	case gStr:
		return g.form(sub, "(Prim.intText `int`)", "(Prim.realText `real`)", "(Prim.^ (`string`, `string`))", "(Prim.str `char`)", "(Prim.input `unit`)", "(Prim.substring (`string`, `int`, 1))")
	case gBool:
		s := g.any(gInt, gStr, gChar, gReal)
		e := g.any(gInt, gStr, gChar, gBool, gPair, gRec, gList, gPairs, gTree, gRef, gArr, gUnit)
		return g.form(sub, "(`"+s+"`"+g.any(" < ", " <= ", " > ", " >= ")+"`"+s+"`)", "(`"+e+"`"+g.any(" = ", " <> ")+"`"+e+"`)", "(`bool`"+g.any(" andalso ", " orelse ")+"`bool`)", "(Prim.isNan `real`)", "(Prim.same (`real`, `real`))")
	case gChar:
		return g.form(sub, "(Prim.chr `int`)", "(Prim.sub (`string`, `int`))")
	case gReal:
		return g.form(sub, "(`real`"+g.any(" + ", " - ", " * ", " / ")+"`real`)", "(Prim.real `int`)", "(~ `real`)", "(#1 (Prim.realScan `string`))")
	case gUnit:
		return "(" + g.effect(deep) + ")"
	case gPair:
		return g.form(sub, "(`int`, `string`)", "{2 = `string`, 1 = `int`}")
	case gRec:
		return g.form(sub, "{b = `string`, a = `int`, 10 = `bool`, 9 = `char`}")
	case gList:
		return g.form(sub, "(`int` :: `int list`)", "[`int`, `int`]", "(op :: (`int`, `int list`))")
	case gPairs:
		return g.form(sub, "(`int * string` :: `(int * string) list`)", "[`int * string`]")
	case gTree:
		return g.form(sub, "(Node (`tree`, `int`, `tree`))", "(Mark {r = `string`, l = `int`})", "(Wrap (Only `tree`))")
	case gFun:
		return g.any("(fn "+g.rules(gInt, gInt, deep)+")", "(op "+g.any("+", "-", "div")+" : int * int -> int; fn n => n)")
	case gAct:
		return "(fn " + g.rules(gList, gStr, deep) + ")"
	case gRef:
		return g.form(sub, "(ref `int`)")
	case gArr:
		return g.form(sub, "(Prim.array (`int`, `string`))")
	}
	return g.form(sub, g.carrier())
}

// carrier is an exception, with what it takes in its form.
func (g *grower) carrier() string {
	l := g.known("", true)
	switch n := l[g.r.Intn(len(l))]; n.t {
	case "":
		return n.text
	case gInt:
		return "(" + n.text + " `int`)"
	default:
		return "(" + n.text + " (`string`, `int`))"
	}
}

func (g *grower) ofInt(sub func(string) string) string {
	return g.form(sub, "(`int`"+g.any(" + ", " - ", " * ", " div ", " mod ")+"`int`)", "(~ `int`)", "(Prim.size `string`)", "(Prim.ord `char`)", "(Prim.round `real`)", "(Prim.quot (`int`, `int`))", "(Prim.rem (`int`, `int`))",
		"(Prim.length `string array`)", "(#1 (Prim.intScan `string`))", "(op + (`int`, `int`))", "(op - {2 = `int`, 1 = `int`})")
}

// effect is what does something that is seen further on.
func (g *grower) effect(deep int) string {
	sub := func(t string) string { return g.exp(t, deep-1) }
	switch g.r.Intn(6) {
	case 0:
		return g.form(sub, "`int ref` := `int`")
	case 1:
		return g.form(sub, "Prim.set (`string array`, `int`, `string`)")
	case 2:
		v := g.fresh("w")
		return g.form(sub, "let val "+v+" = ref 0 in while !"+v+" < 3 do (Prim.print \"w\"; "+v+" := !"+v+" + 1; `unit`) end")
	case 3:
		return g.form(sub, "Prim.print `string`")
	}
	return g.form(sub, "Prim.print (Prim.intText `int`)")
}

// rules are rules from one type to another.
func (g *grower) rules(from, to string, deep int) string {
	var l []string
	for range 1 + g.r.Intn(3) {
		g.within(func() {
			p := g.pat(from, 2)
			l = append(l, p+" => "+g.exp(to, deep-1))
		})
	}
	if g.odds(2) {
		g.within(func() { l = append(l, g.bare(from)+" => "+g.exp(to, deep-1)) })
	}
	return strings.Join(l, " | ")
}

// bare is a pattern that all values match.
func (g *grower) bare(t string) string {
	if g.odds(3) {
		return "_"
	}
	v := g.fresh("v")
	g.add(name{v, t, false})
	return v
}

// pat is a pattern of a type; what it binds is in the scope then.
func (g *grower) pat(t string, deep int) string {
	if deep < 0 || g.odds(4) {
		return g.bare(t)
	}
	deep--
	sub := func(t string) string { return g.pat(t, deep) }
	switch g.r.Intn(10) {
	case 0:
		return "(" + g.bare(t) + " : " + t + ")"
	case 1:
		v := g.fresh("v")
		p := sub(t)
		g.add(name{v, t, false})
		return "(" + v + g.any("", " : "+t) + " as " + p + ")"
	}
	switch t {
	case gInt, gStr, gBool, gChar:
		return g.constant(t)
	case gUnit:
		return "()"
	case gPair:
		return g.form(sub, "(`int`, `string`)", "{2 = `string`, ...}", "{1 = `int`, 2 = _}")
	case gRec:
		return g.form(sub, "{a = `int`, b = `string`, ...}", "{10 = `bool`, 9 = `char`, ...}", "{b = _, 9 = `char`, a = `int`, 10 = _}")
	case gList:
		return g.form(sub, "nil", "(`int` :: `int list`)", "[`int`]", "[`int`, `int`]")
	case gPairs:
		return g.form(sub, "nil", "(`int * string` :: `(int * string) list`)")
	case gTree:
		return g.form(sub, "Leaf", "(Node (`tree`, `int`, `tree`))", "(Mark {l = `int`, ...})", "(Wrap (Only `tree`))", "(Wrap _)")
	case gRef:
		return g.form(sub, "(ref `int`)")
	case gExn:
		return g.form(sub, g.carrier())
	}
	return g.bare(t)
}

// decs are some declarations.
func (g *grower) decs(n, deep int) string {
	var l []string
	for range n {
		l = append(l, g.dec(deep))
	}
	return strings.Join(l, " ")
}

func (g *grower) dec(deep int) string {
	switch g.r.Intn(9) {
	case 0, 1:
		return g.fun(deep)
	case 2:
		return g.exception()
	case 3:
		var s string
		before := slices.Clone(g.scope)
		s = "local " + g.decs(1+g.r.Intn(2), deep) + " in "
		between := slices.Clone(g.scope)
		s += g.decs(1+g.r.Intn(2), deep) + " end"
		var made []name
		for _, n := range g.scope {
			if !slices.Contains(between, n) {
				made = append(made, n)
			}
		}
		g.scope = before
		for _, n := range made {
			g.add(n)
		}
		return s
	case 4:
		t, s := g.someType(), g.someType()
		a, b := g.exp(t, deep-1), g.safe(s, deep-1)
		p := g.safePat(t)
		return "val " + p + " = " + a + " and " + g.bare(s) + " = " + b
	case 5:
		return "val _ = (" + g.effect(deep) + ")" + g.any("", " handle _ => ()", " handle _ => ()")
	case 6:
		t := g.someType()
		e := g.safe(t, deep)
		return "val " + g.safePat(t) + " = " + e
	}
	t := g.someType()
	e := g.safe(t, deep)
	return "val " + g.bare(t) + " : " + t + " = " + e
}

// safe is an expression that mostly raises nothing.
func (g *grower) safe(t string, deep int) string {
	if g.odds(6) {
		return g.exp(t, deep)
	}
	return g.exp(t, deep) + " handle _ => " + g.leaf(t)
}

// safePat is a pattern that mostly matches.
func (g *grower) safePat(t string) string {
	switch {
	case g.odds(6):
		return g.pat(t, 2)
	case t == gPair:
		return "(" + g.bare(gInt) + ", " + g.bare(gStr) + ")"
	case t == gRec:
		return "{a = " + g.bare(gInt) + ", 9 = " + g.bare(gChar) + ", ...}"
	case t == gRef:
		return "(ref " + g.bare(gInt) + ")"
	}
	return g.bare(t)
}

// fun is a function that calls itself with less, or two of them.
func (g *grower) fun(deep int) string {
	f, h, x := g.fresh("f"), g.fresh("h"), g.fresh("v")
	base, call, other := "", "", ""
	g.within(func() {
		g.add(name{f, gFun, false})
		g.scope = slices.DeleteFunc(g.scope, func(n name) bool { return n.text == f || n.text == h }) // it may call nobody but itself
		base = g.exp(gInt, deep-1)
		other = g.within1(func() string {
			p, q := g.pat(gInt, 1), g.pat(gList, 2)
			return p + " " + q + " = " + g.exp(gStr, deep-1)
		})
		g.add(name{x, gInt, false})
		call = f + " (" + x + " - 1)"
		switch g.r.Intn(4) {
		case 0:
			call = g.exp(gInt, deep-1) + " + " + call
		case 1:
			call = "(" + g.effect(deep-1) + "; " + call + ")"
		case 2:
			call = "(" + call + " handle " + g.rules(gExn, gInt, deep-1) + ")"
		}
	})
	g.add(name{f, gFun, false})
	say := " val _ = Prim.print (Prim.intText (" + f + " " + g.any("0", "3", "5") + " handle Overflow => 0 | Div => 1 | Subscript => 2 | Match => 3))"
	switch g.r.Intn(3) {
	case 0:
		return "val rec " + f + " : int -> int = fn 0 => " + base + " | " + x + " => " + call + say
	case 1:
		return "fun " + f + " 0 = " + base + " | " + f + " " + x + " = " + call + say
	}
	g.scope = slices.DeleteFunc(g.scope, func(n name) bool { return n.text == h })
	return "fun " + f + " 0 = " + base + " | " + f + " " + x + " = " + call + " and " + h + " " + other + " | " + h + " _ _ = " + g.leaf(gStr) + say + " val _ = Prim.print (" + h + " 1 [1])"
}

func (g *grower) exception() string {
	x := g.any("E", "F", "G") + strconv.Itoa(g.r.Intn(3))
	switch g.r.Intn(4) {
	case 0:
		l := g.known("", true)
		n := l[g.r.Intn(len(l))]
		g.add(name{x, n.t, true})
		return "exception " + x + " = " + n.text
	case 1:
		g.add(name{x, gInt, true})
		return "exception " + x + " of int"
	case 2:
		g.add(name{x, "string * int", true})
		return "exception " + x + " of string * int"
	}
	g.add(name{x, "", true})
	return "exception " + x
}

// module is a declaration of a structure, a functor or the like.
func (g *grower) module(deep int) string {
	switch g.r.Intn(6) {
	case 0:
		f := "Fct" + strconv.Itoa(g.r.Intn(3))
		s := ""
		g.within(func() {
			for _, n := range parameter() {
				g.add(name{"P." + n.text, n.t, n.exn})
			}
			s = "functor " + f + " (P : " + sigOf(parameter()) + ") = struct " + g.decs(1+g.r.Intn(3), deep) + " val made = " + g.exp(gInt, deep) + " val act = " + g.exp(gFun, deep) + " structure Sub = P.Sub exception Own = P.X end"
		})
		if !slices.Contains(g.fcts, f) {
			g.fcts = append(g.fcts, f)
		}
		return s
	case 1:
		if len(g.fcts) > 0 {
			x := "S" + strconv.Itoa(g.r.Intn(4))
			made := "structure " + x + " = " + g.any(g.fcts...) + " (" + g.parameterStr(deep) + ")"
			g.forget(x)
			for _, n := range []name{{"made", gInt, false}, {"act", gFun, false}, {"Sub.s", gStr, false}, {"Own", gInt, true}} {
				g.add(name{x + "." + n.text, n.t, n.exn})
			}
			return made
		}
	case 2:
		var l []string
		for _, n := range g.scope {
			if s, _, ok := strings.Cut(n.text, "."); ok && !slices.Contains(l, s) {
				l = append(l, s)
			}
		}
		if len(l) > 0 {
			x := g.any(l...)
			for _, n := range slices.Clone(g.scope) {
				if rest, ok := strings.CutPrefix(n.text, x+"."); ok {
					g.add(name{rest, n.t, n.exn})
				}
			}
			return "open " + x
		}
	}
	return g.structure(deep)
}

// forget takes all that was known of a structure out of the scope.
func (g *grower) forget(x string) {
	g.scope = slices.DeleteFunc(g.scope, func(n name) bool { return strings.HasPrefix(n.text, x+".") })
}

// structure is a declaration of a structure, perhaps with a signature.
func (g *grower) structure(deep int) string {
	x := "S" + strconv.Itoa(g.r.Intn(4))
	var made []name
	body := ""
	g.within(func() {
		before := slices.Clone(g.scope)
		g.scope = slices.Clone(before)
		body = g.decs(1+g.r.Intn(4), deep)
		if g.odds(3) {
			body += " " + g.structure(deep-1)
		}
		for _, n := range g.scope {
			if !slices.Contains(before, n) {
				made = append(made, n)
			}
		}
	})
	var kept []name
	for _, n := range made {
		if g.r.Intn(3) > 0 {
			kept = append(kept, n)
		}
	}
	str := "struct " + body + " end"
	if g.odds(4) {
		str = "let " + g.within1(func() string { return g.decs(1, deep) }) + " in " + str + " end"
		made, kept = nil, nil
	}
	g.forget(x)
	switch g.r.Intn(3) {
	case 0:
		kept = made
		str = " = " + str
	default:
		str = g.any(" : ", " :> ") + sigOf(kept) + " = " + str
	}
	for _, n := range kept {
		g.add(name{x + "." + n.text, n.t, n.exn})
	}
	return "structure " + x + str
}

func (g *grower) within1(f func() string) (s string) {
	g.within(func() { s = f() })
	return s
}

// sigOf is a signature that has these names.
func sigOf(l []name) string {
	s, subs := "sig", []string{}
	inner := map[string][]name{}
	for _, n := range l {
		if x, rest, ok := strings.Cut(n.text, "."); ok {
			if inner[x] == nil {
				subs = append(subs, x)
			}
			inner[x] = append(inner[x], name{rest, n.t, n.exn})
			continue
		}
		switch {
		case n.exn && n.t == "":
			s += " exception " + n.text
		case n.exn:
			s += " exception " + n.text + " of " + n.t
		default:
			s += " val " + n.text + " : " + n.t
		}
	}
	for _, x := range subs {
		s += " structure " + x + " : " + sigOf(inner[x])
	}
	return s + " end"
}

// parameter is what functors ask of their arguments.
func parameter() []name {
	return []name{{"a", gInt, false}, {"f", gFun, false}, {"X", gInt, true}, {"Y", "", true}, {"e", gExn, false}, {"Sub.s", gStr, false}, {"Sub.l", gList, false}}
}

// parameterStr is a structure that has it.
func (g *grower) parameterStr(deep int) string {
	return g.within1(func() string {
		s := g.decs(g.r.Intn(3), deep) + " val f = " + g.exp(gFun, deep) + " val a = " + g.exp(gInt, deep)
		return s + " exception X of int exception Y" + g.any("", " = Div", " = E") + " " + g.any("exception e", "val e = "+g.exp(gExn, deep)) + " structure Sub = struct val zero = 0 val s = " + g.exp(gStr, deep) + " val l = " + g.exp(gList, deep) + " end"
	})
}

// parts are pieces of a program at random, which stand one behind the other.
func (g *grower) parts(deep int) []string {
	l := []string{first}
	for range 2 + g.r.Intn(6) {
		if g.odds(3) {
			l = append(l, g.module(deep))
		} else {
			l = append(l, g.dec(deep))
		}
	}
	for _, n := range g.scope {
		if n.t == gInt && !n.exn && g.odds(2) {
			l = append(l, "val _ = Prim.print (Prim.intText "+n.text+")")
		}
	}
	return l
}
