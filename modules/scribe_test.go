package modules

import (
	"math/rand"
	"slices"
	"strconv"
	"strings"
)

// scribe writes programs of modules at random: most of them right, some not.
type scribe struct {
	*rand.Rand
	sigs, fcts []known
	strs       []known
}

// known is a name with what its structure, or its signature, should have.
type known struct {
	name  string
	items []string
}

// one picks a text.
func (s *scribe) one(l ...string) string { return l[s.Intn(len(l))] }

// slip is true now and then.
func (s *scribe) slip(of int) bool { return s.Intn(of) == 0 }

// mostly is mostly the first text.
func (s *scribe) mostly(l ...string) string {
	if s.slip(8) {
		return s.one(l...)
	}
	return l[0]
}

// ty is a type that can be named where these items are.
func (s *scribe) ty(items []string) string {
	l := []string{"int", "bool list"}
	for _, item := range items {
		switch item {
		case "t", "u", "d", "n":
			l = append(l, item)
		case "p":
			l = append(l, "int p")
		case "S", "T":
			if s.slip(6) {
				l = append(l, item+".t")
			}
		}
	}
	if len(s.strs) > 0 && s.slip(4) {
		if k := s.strs[s.Intn(len(s.strs))]; slices.Contains(k.items, "t") {
			l = append(l, k.name+".t")
		}
	}
	if s.slip(80) {
		l = append(l, "nobody", "(int, int) p", "int t")
	}
	return s.one(l...)
}

// spec is a specification of an item, where others are ahead.
func (s *scribe) spec(item string, items []string) string {
	switch item {
	case "t":
		return s.mostly(s.one("type t", "type t", "eqtype t", "type t = int"), "type 'a t", "type t = "+s.ty(items))
	case "u":
		return s.one("eqtype u", "type u", "datatype u = U", "type u = string")
	case "p":
		return s.mostly(s.one("type 'a p", "datatype 'a p = P of 'a | Q"), "type ('a, 'b) p", "eqtype 'a p", "type ''a p")
	case "d":
		return s.mostly(s.one("datatype d = A | B of int", "datatype d = B of int | A", "type d", "eqtype d"), "datatype d = A | B of int and e = C of d | D", "datatype d = A | B of bool")
	case "n":
		return s.mostly(s.one("datatype n = N of int -> int", "type n"), "datatype n = N of int -> int and m = M of n and k = K", "eqtype n")
	case "x":
		return "val x : " + s.ty(items)
	case "f":
		return s.mostly(s.one("val f : 'a -> 'a", "val f : int -> int", "val f : ''a -> ''a"), "val f : 'a -> 'b -> 'a", "val f : "+s.ty(items)+" -> "+s.ty(items))
	case "r":
		return s.mostly("val r : int list ref", "val r : 'a list ref", "val r : "+s.ty(items)+" list ref")
	case "E":
		return s.mostly(s.one("exception E", "val E : exn"), "exception E of int", "exception E of "+s.ty(items), "exception E of 'a")
	case "print":
		return s.one("val print : string -> unit", "val size : string -> int", "val print : string -> unit and size : string -> int")
	case "y":
		return s.one("type s = "+s.ty(items), "val y : "+s.ty(items)+" -> "+s.ty(items), "type 'a s = 'a * "+s.ty(items))
	}
	text, _ := s.sig(1)
	return "structure " + item + " : " + text
}

// impl is a declaration of an item, where others are ahead.
func (s *scribe) impl(item string, items []string) string {
	switch item {
	case "t":
		return s.mostly(s.one("type t = int", "type t = int", "datatype t = T of int"), "type t = "+s.ty(items), "type t = int -> int", "type 'a t = 'a", "type t = real")
	case "u":
		return s.mostly("type u = string", "datatype u = U", "type u = bool", "datatype u = datatype bool", "type u = real")
	case "p":
		return s.mostly(s.one("datatype 'a p = P of 'a | Q", "datatype 'b p = Q | P of 'b"), "type ('a, 'b) p = 'b * 'a", "type 'a p = 'a list", "type 'a p = 'a -> int")
	case "d":
		return s.mostly(s.one("datatype d = A | B of int", "datatype d = B of int | A", "datatype d0 = A | B of int datatype d = datatype d0"), "datatype d = A | B of int and e = D | C of d", "datatype d = A", "datatype d = A | B of bool", "type d = int")
	case "n":
		return s.mostly("datatype n = N of int -> int", "datatype n = N of int -> int and m = M of n and k = K", "datatype n = N of int", "datatype m = M of n and n = N of int -> int and k = K")
	case "x":
		return s.mostly("val x : "+s.ty(items)+" = raise Bind", "val x = 1", "val (x, _) = (1, 2)", "val x = "+s.value())
	case "f":
		return s.mostly("fun f x = x", "fun f (x : int) = x", "fun f x y = x", "datatype g = f of int", "fun f x = x : "+s.ty(items))
	case "r":
		return s.one("val r = ref nil", "val r = ref [1]", "val r = ref nil val r' = r := [true]")
	case "E":
		return s.mostly(s.one("exception E", "exception E = Div"), "exception E of int", "exception E of "+s.ty(items), "val E = Div")
	case "print":
		return s.mostly(s.one("open Prim", "val print = Prim.print and size = Prim.size"), "open Prim val size = 1", "structure Q = Prim open Q")
	case "y":
		return s.one("type s = "+s.ty(items)+" fun y z = raise Match", "type 'a s = 'a * "+s.ty(items)+" fun y (_ : int) = 1", "local val z = 1 in val y = fn _ => z end type s = int")
	}
	text, _ := s.str(1)
	return "structure " + item + " = " + text
}

// items picks some things that signatures name.
func (s *scribe) items(depth int) []string {
	var l []string
	for _, item := range []string{"t", "u", "p", "d", "n", "x", "f", "r", "E", "print", "y"} {
		if s.slip(3) {
			l = append(l, item)
		}
	}
	if depth > 0 && s.slip(3) {
		l = append(l, s.one("S", "T"))
	}
	return l
}

func (s *scribe) specs(l []string) string {
	var parts []string
	for i, item := range l {
		if !s.slip(80) {
			parts = append(parts, s.spec(item, l[:i]))
		}
	}
	return "sig " + strings.Join(parts, s.one(" ", " ; ")) + " end"
}

func (s *scribe) impls(l []string) string {
	var parts []string
	for i, item := range l {
		switch {
		case s.slip(80):
		case s.slip(100):
			parts = append(parts, s.one("signature N = sig end", "functor N (X : sig end) = struct end", "val _ = 1 2", "val v = nobody", "local signature N = sig end in end"))
		default:
			parts = append(parts, s.impl(item, l[:i]))
		}
	}
	if s.slip(8) {
		parts = append(parts, s.impl(s.one("x", "f", "d", "E"), l))
	}
	if s.slip(8) {
		parts = append(parts, s.core())
	}
	return "struct " + strings.Join(parts, " ") + " end"
}

// where puts types into a signature.
func (s *scribe) where(text string, items []string) string {
	for s.slip(5) {
		switch {
		case s.slip(8):
			text += s.one(" where type d = int", " where type nobody = int", " where type t = int -> int", " where type t = nobody", " where type 'a t = 'a", " where type p = int")
		case slices.Contains(items, "t") && s.slip(2):
			text += " where type t = " + s.ty(nil)
		case slices.Contains(items, "p"):
			text += s.one(" where type 'a p = 'a list", " where type 'a p = 'a * int")
		case slices.Contains(items, "S") && s.slip(4):
			text += " where type S.t = int"
		}
	}
	return text
}

func (s *scribe) sig(depth int) (string, []string) {
	if len(s.sigs) > 0 && s.slip(2) {
		k := s.sigs[s.Intn(len(s.sigs))]
		return s.where(k.name, k.items), k.items
	}
	if s.slip(80) {
		return "NOBODY", nil
	}
	l := s.items(depth - 1)
	return s.where(s.specs(l), l), l
}

func (s *scribe) str(depth int) (string, []string) {
	switch s.Intn(12) {
	case 0, 1:
		if len(s.strs) > 0 {
			return s.path()
		}
	case 2, 3:
		if len(s.fcts) > 0 {
			f := s.fcts[s.Intn(len(s.fcts))]
			if s.slip(3) {
				text, _ := s.str(depth - 1)
				return f.name + " (" + text + ")", nil
			}
			return f.name + " (" + s.impls(f.items) + ")", nil
		}
	case 4:
		text, items := s.str(depth - 1)
		return "let " + s.core() + " in " + text + " end", items
	case 5:
		if depth > 0 {
			text, items := s.sig(depth - 1)
			return s.impls(items) + s.one(" : ", " :> ") + text, items
		}
	case 6, 7, 8:
		if depth > 0 {
			l := s.items(1)
			return s.impls(l) + s.one(" : ", " :> ") + s.where(s.specs(l), l), l
		}
	}
	l := s.items(depth)
	return s.impls(l), l
}

// path is a structure's name.
func (s *scribe) path() (string, []string) {
	if len(s.strs) == 0 || s.slip(60) {
		return s.one("Nobody", "X", "X.S", "Prim"), nil
	}
	k := s.strs[s.Intn(len(s.strs))]
	for _, sub := range []string{"S", "T"} {
		if slices.Contains(k.items, sub) && s.slip(2) {
			return k.name + "." + sub, nil
		}
	}
	return k.name, k.items
}

// value is an expression.
func (s *scribe) value() string {
	path, items := s.path()
	l := []string{"1"}
	if s.slip(20) {
		l = append(l, path+".f", path+".nobody")
	}
	for _, item := range items {
		switch item {
		case "x", "r", "E", "print":
			l = append(l, path+"."+item)
		case "f":
			l = append(l, path+".f", path+".f 1")
		case "d":
			l = append(l, path+".A", path+".B 1")
		case "p":
			l = append(l, path+".P 2", path+".Q")
		case "n":
			l = append(l, path+".N (fn x => x)")
		}
	}
	return s.one(l...)
}

// core is a declaration of the core.
func (s *scribe) core() string {
	v := "v" + strconv.Itoa(s.Intn(4))
	path, items := s.path()
	if s.slip(2) && len(items) > 0 {
		switch item := s.one(items...); item {
		case "t", "u", "d":
			return s.mostly("type q = "+path+"."+item, "datatype c = datatype "+path+"."+item)
		case "r":
			return "val _ = " + path + ".r := [" + s.mostly("1", s.value()) + "]"
		case "x":
			return s.mostly("val "+v+" = "+path+".x", "val "+v+" = "+path+".x + 1", "val "+v+" = "+path+".x = "+path+".x")
		case "S", "T":
			return "open " + path + " " + item
		}
	}
	switch s.Intn(6) {
	case 0:
		return "open " + path
	case 1:
		return "local " + s.core() + " in " + s.core() + " end"
	case 2:
		return s.mostly("val "+v+" = ["+s.value()+"]", "val "+v+" = ["+s.value()+", "+s.value()+"]", "val "+v+" = ("+s.value()+" = "+s.value()+")")
	case 3:
		return "val " + v + " = " + s.value() + " val w = " + v
	}
	return "val " + v + " = ref nil"
}

// program is some declarations.
func (s *scribe) program() string {
	var parts []string
	for range 2 + s.Intn(4) {
		parts = append(parts, s.dec())
	}
	return strings.Join(parts, "\n")
}

func (s *scribe) dec() string {
	switch s.Intn(8) {
	case 0, 1:
		name := s.one("G", "H", "I")
		text, items := s.sig(2)
		s.sigs = append(s.sigs, known{name, items})
		return "signature " + name + " = " + text
	case 2, 3, 4:
		return s.structure()
	case 5, 6:
		return s.functor()
	}
	if s.slip(4) {
		return "local " + s.structure() + " in " + s.structure() + " end"
	}
	return s.core()
}

func (s *scribe) functor() string {
	name, before := s.one("F", "K"), slices.Clip(s.strs)
	param, items := s.sig(1)
	s.strs = append(before, known{"X", items})
	typed := s.mostly("", " : ", " :> ")
	if typed != "" {
		text, _ := s.sig(1)
		typed += text
	}
	body, _ := s.str(2)
	s.strs = before
	s.fcts = append(s.fcts, known{name, items})
	return "functor " + name + " (X : " + param + ")" + typed + " = " + body
}

// structure is a declaration of structures.
func (s *scribe) structure() string {
	name := s.one("A", "B", "C")
	body, items := s.str(2)
	text := "structure " + name + " = " + body
	if s.slip(4) {
		sig, has := s.sig(2)
		text, items = "structure "+name+s.one(" : ", " :> ")+sig+" = "+s.impls(has), has
	}
	if s.slip(8) {
		other, _ := s.str(1)
		text += " and " + name + "' = " + other
	}
	s.strs = append(s.strs, known{name, items})
	return text
}
