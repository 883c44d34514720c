package tree

import (
	"fmt"
	"math/rand"
	"strings"
	"testing"

	"kiln/api"
)

// firstNames are the infix names at first, as the chapter has them: level, from the left or the right, names.
var firstNames = []struct {
	level int
	right bool
	names string
}{{7, false, "* / div mod"}, {6, false, "+ - ^"}, {5, true, ":: @"}, {4, false, "= <> > >= < <="}, {3, false, ":= o"}, {0, false, "before"}}

// operator is an infix name, for the model.
type operator struct {
	name  string
	level int
	right bool
}

// firstOperators are firstNames, one by one.
func firstOperators() []operator {
	var all []operator
	for _, l := range firstNames {
		for _, n := range strings.Fields(l.names) {
			all = append(all, operator{n, l.level, l.right})
		}
	}
	return all
}

// conflict is the place of the first name that stands side by side with one of its level ahead of it, of the other kind; -1, if there is none.
func conflict(l []operator) int {
	for j := range l {
		for i := j - 1; i >= 0 && l[i].level >= l[j].level; i-- {
			if l[i].level == l[j].level && l[i].right != l[j].right {
				return j
			}
		}
	}
	return -1
}

// last is the place of the name that is put together last: of the lowest level the last one, or, from the right, the first one.
func last(l []operator) int {
	at := 0
	for i := range l {
		if l[i].level < l[at].level || l[i].level == l[at].level && !l[i].right {
			at = i
		}
	}
	return at
}

// grouped is what names make of the sides around them: how the tree is shown.
func grouped(sides []string, l []operator, kind string) string {
	if len(l) == 0 {
		return sides[0]
	}
	at := last(l)
	return fmt.Sprintf("%sApp(%sName %s, %sTuple(%s, %s))", kind, kind, l[at].name, kind, grouped(sides[:at+1], l[:at], kind), grouped(sides[at+1:], l[at+1:], kind))
}

// checkInfix holds what Parse makes of names between 0, 1, .. against the model, in an expression and in a pattern, behind these directives.
func checkInfix(t *testing.T, directives string, l []operator) {
	t.Helper()
	sides, text := []string{"NInt 0"}, "0"
	equal := false
	for i, o := range l {
		sides = append(sides, fmt.Sprintf("NInt %d", i+1))
		text += fmt.Sprintf(" %s %d", o.name, i+1)
		equal = equal || o.name == "="
	}
	for _, kind := range []string{"E", "P"} {
		source, want := directives+"val v = "+text, "DVal(NBind(PName v, "+grouped(sides, l, kind)+"))"
		begin := len(directives) + len("val v = ")
		if kind == "P" {
			source, want = directives+"val "+text+" = 0", "DVal(NBind("+grouped(sides, l, kind)+", NInt 0))"
			begin = len(directives) + len("val ")
			if equal { // `=` is no infix name in patterns
				continue
			}
		}
		if c := conflict(l); c >= 0 {
			column := begin + 2 // behind 0 and a blank
			for i := range c {
				column += len(fmt.Sprintf("%s %d ", l[i].name, i+1))
			}
			faultAt(t, source, column+1, api.ErrFixity)
			continue
		}
		if got := decsOf(t, source); !strings.HasSuffix(got, want) {
			t.Errorf("Parse(%q) = %s; want %s", source, got, want)
		}
	}
}

// P5.1: the infix names at first: any one, any two, any three of them.
func TestFirstInfixNames(t *testing.T) {
	all := firstOperators()
	if len(all) != 18 {
		t.Fatalf("%d names", len(all))
	}
	for _, a := range all {
		checkInfix(t, "", []operator{a})
		for _, b := range all {
			checkInfix(t, "", []operator{a, b})
			for _, c := range all {
				checkInfix(t, "", []operator{a, b, c})
			}
		}
	}
	for _, s := range []string{"++", "**", "=>>", "==", "O", "Before", "divmod", "!", "~", "not", "x", "::=", "A.+", "A.*", "A.o", "A.before"} {
		sameExp(t, "1 "+s+" 2", "EApp(EApp(NInt 1, EName "+s+"), NInt 2)")
	}
}

// ours are names of each level from the left and from the right, and the directives that make them.
func ours() ([]operator, string) {
	var all []operator
	directives := ""
	for level := range 10 {
		for _, right := range []bool{false, true} {
			o := operator{fmt.Sprintf("l%d", level), level, right}
			word := "infix"
			if right {
				o.name, word = fmt.Sprintf("r%d", level), "infixr"
			}
			all = append(all, o)
			directives += fmt.Sprintf("%s %d %s ", word, level, o.name)
		}
	}
	return all, directives
}

// P5.1: names of each level from the left and from the right: any two, and many.
func TestLevels(t *testing.T) {
	all, directives := ours()
	for _, a := range all {
		for _, b := range all {
			checkInfix(t, directives, []operator{a, b})
		}
	}
	all = append(all, firstOperators()...)
	r := rand.New(rand.NewSource(5))
	for range 8000 {
		var l []operator
		some := all
		if r.Intn(2) == 0 { // few levels: more of them meet
			i := 2 * r.Intn(9)
			some = all[i : i+4]
		}
		for range 1 + r.Intn(7) {
			l = append(l, some[r.Intn(len(some))])
		}
		checkInfix(t, directives, l)
	}
}

// P5.1: a directive without a digit is of level 0, the last one of a name counts, and any name may be turned.
func TestTurned(t *testing.T) {
	checkInfix(t, "infix a infixr b infix 0 c ", []operator{{"a", 0, false}, {"c", 0, false}})
	checkInfix(t, "infix a infixr b ", []operator{{"b", 0, true}, {"b", 0, true}})
	checkInfix(t, "infix a infixr b ", []operator{{"b", 0, true}, {"a", 0, false}})
	checkInfix(t, "infix 3 a infixr 7 a ", []operator{{"*", 7, false}, {"a", 7, true}})
	checkInfix(t, "infix 3 a a nonfix a infix 2 a ", []operator{{"a", 2, false}, {":=", 3, false}})
	checkInfix(t, "infixr 6 + ", []operator{{"+", 6, true}, {"+", 6, true}})
	checkInfix(t, "infixr 6 + ", []operator{{"+", 6, true}, {"-", 6, false}})
	checkInfix(t, "infix 9 before f g infixr 1 h ", []operator{{"h", 1, true}, {"f", 9, false}, {"before", 9, false}, {"h", 1, true}})
	sameDecs(t, "nonfix + * val x = + * 1", "DFix nonfix(PName +, PName *), DVal(NBind(PName x, EApp(EApp(EName +, EName *), NInt 1)))")
	sameDecs(t, "nonfix + fun + x = 1", "DFix nonfix(PName +), DFun(NFun(NClause +(NPats(PName x), NInt 1)))")
	sameDecs(t, "nonfix :: val :: x = :: y", "DFix nonfix(PName ::), DVal(NBind(PApp(PName ::, PName x), EApp(EName ::, EName y)))")
	sameDecs(t, "nonfix + val + as x = 1", "DFix nonfix(PName +), DVal(NBind(PAs +(PName x), NInt 1))")
	sameDecs(t, "infix f fun x f y = x f y", "DFix infix 0(PName f), DFun(NFun(NClause f(NPats(PTuple(PName x, PName y)), EApp(EName f, ETuple(EName x, EName y)))))")
	faultBehind(t, "infix f val x = ¦f 1")
	faultBehind(t, "infix f fun ¦f x = 1")
	faultBehind(t, "infix f val ¦f = 1")
	sameDecs(t, "nonfix + val x = 1 + = 2", "DFix nonfix(PName +), DVal(NBind(PName x, EApp(EName =, ETuple(EApp(NInt 1, EName +), NInt 2))))")
}

// P5.1: `op`, long names and `=`.
func TestNotInfix(t *testing.T) {
	sameExp(t, "op + op *", "EApp(EName +, EName *)")
	sameExp(t, "op + (1, 2) + 3", "EApp(EName +, ETuple(EApp(EName +, ETuple(NInt 1, NInt 2)), NInt 3))")
	sameExp(t, "1 + op + + 2", "EApp(EName +, ETuple(EApp(EName +, ETuple(NInt 1, EName +)), NInt 2))")
	sameExp(t, "f A.+ x", "EApp(EApp(EName f, EName A.+), EName x)")
	sameExp(t, "f op = x = y", "EApp(EName =, ETuple(EApp(EApp(EName f, EName =), EName x), EName y))")
	sameExp(t, "a = b", "EApp(EName =, ETuple(EName a, EName b))")
	sameExp(t, "a = b = c", "EApp(EName =, ETuple(EApp(EName =, ETuple(EName a, EName b)), EName c))")
	sameExp(t, "f a = g b", "EApp(EName =, ETuple(EApp(EName f, EName a), EApp(EName g, EName b)))")
	sameExp(t, "a + b = c * d", "EApp(EName =, ETuple(EApp(EName +, ETuple(EName a, EName b)), EApp(EName *, ETuple(EName c, EName d))))")
	sameExp(t, "if a = b then c = d else e = f", "EIf(EApp(EName =, ETuple(EName a, EName b)), EApp(EName =, ETuple(EName c, EName d)), EApp(EName =, ETuple(EName e, EName f)))")
	sameExp(t, "{a = b = c}", "ERecord(NField a(EApp(EName =, ETuple(EName b, EName c))))")
	sameExp(t, "let val x = a = b in x = c end", "ELet(NDecs(DVal(NBind(PName x, EApp(EName =, ETuple(EName a, EName b))))), EApp(EName =, ETuple(EName x, EName c)))")
	sameDecs(t, "val op + = op -", "DVal(NBind(PName +, EName -))")
	sameDecs(t, "nonfix + infix 6 + val x = 1 + 2", "DFix nonfix(PName +), DFix infix 6(PName +), DVal(NBind(PName x, EApp(EName +, ETuple(NInt 1, NInt 2))))")
	faultBehind(t, "val x = y = 1 = 2 ¦=> 1")
}

// scoped fails the test, if @ in a text, where `++` stands, is not infix, or % is infix. (It is infixr 8 where it is.)
func scoped(t *testing.T, s string) {
	t.Helper()
	got := decsOf(t, strings.NewReplacer("@", "1 ++ 2", "%", "1 ++ 2").Replace(s))
	want := decsOf(t, strings.NewReplacer("@", "op ++ (1, 2)", "%", "((1) (op ++)) 2").Replace(s))
	if got != want {
		t.Errorf("%s:\n%s\n%s", s, got, want)
	}
}

// P5.1: a directive holds from there on to the end of its decs: of a let, of a struct, of a local's first or second part, of the top.
func TestScopes(t *testing.T) {
	for _, s := range []string{
		"val a = %",
		"val a = % infixr 8 ++ val b = @ val c = @",
		"infixr 8 ++ val a = @ nonfix ++ val b = %",
		"infixr 8 ++ ; fun f x = @ and g y = @",
		// of a let
		"val a = let val b = % infixr 8 ++ val c = @ in 0 end val d = %",
		"val a = let infixr 8 ++ in % end val b = %",
		"infixr 8 ++ val a = let val b = @ nonfix ++ val c = % in @; @ end val d = @",
		"val a = let infixr 8 ++ val b = let val c = @ nonfix ++ val d = % in 0 end val e = @ in 0 end",
		"val a = (let infixr 8 ++ in 0 end, %)",
		"structure S = let infixr 8 ++ val a = @ in struct val b = % end end val c = %",
		// of a struct
		"structure S = struct infixr 8 ++ val a = @ end val b = %",
		"infixr 8 ++ structure S = struct val a = @ nonfix ++ val b = % end val c = @",
		"structure S = struct infixr 8 ++ structure T = struct val a = @ nonfix ++ end val b = @ end and U = struct val c = % end",
		"structure S = F (infixr 8 ++ val a = @) val b = %",
		"functor F (X : sig end) = struct infixr 8 ++ val a = @ end val b = %",
		// of a local's parts
		"local infixr 8 ++ val a = @ in val b = @ end val c = %",
		"local val a = % in infixr 8 ++ val b = @ end val c = @",
		"local infixr 8 ++ in nonfix ++ val a = % end val b = %",
		"infixr 8 ++ local nonfix ++ val a = % in val b = % end val c = @",
		"infixr 8 ++ local nonfix ++ in infixr 8 ++ val a = @ end val b = @",
		"infixr 8 ++ local in nonfix ++ val a = % end val b = %",
		"local local infixr 8 ++ in val a = @ end val b = % in val c = % end val d = %",
		"local local in infixr 8 ++ end val a = @ in val b = @ end val c = %",
		"local in local in infixr 8 ++ end val a = @ end val b = @",
		"local in local infixr 8 ++ in end val a = % end val b = %",
		"val a = let local in infixr 8 ++ end val b = @ in % end val c = %",
		"structure S = struct local in infixr 8 ++ end val a = @ end val b = %",
		"local structure S = struct infixr 8 ++ end val a = % in val b = % end",
		"local infixr 8 ++ in structure S = struct val a = @ nonfix ++ val b = % end val c = @ end val d = %",
	} {
		scoped(t, s)
	}
	// A clause, a pattern and a type see the same.
	sameDecs(t, "local infix f in fun a f b = a end fun f b = b", "DLocal(NDecs(DFix infix 0(PName f)), NDecs(DFun(NFun(NClause f(NPats(PTuple(PName a, PName b)), EName a))))), DFun(NFun(NClause f(NPats(PName b), EName b)))")
	// What one call turned the next one does not know.
	parsed(t, "infixr 8 ++ nonfix +")
	scoped(t, "val a = %")
	sameExp(t, "1 + 2", "EApp(EName +, ETuple(NInt 1, NInt 2))")
}

// P5.1: ErrFixity is told ahead of what comes behind its name, and behind what comes ahead.
func TestFixityOrder(t *testing.T) {
	faultAt(t, "infix 5 ## val a = 1 ## 2 :: ", 27, api.ErrFixity)
	faultAt(t, "infix 5 ## val a = 1 ## 2 :: end", 27, api.ErrFixity)
	faultAt(t, "infix 5 ## val a = 1 ## :: 3", 25, api.ErrSyntax)
	faultAt(t, "infix 5 ## val a = 1 ## 2 end :: 3", 27, api.ErrSyntax)
	faultAt(t, "infix 5 ## val a = (1 ## 2 :: 3 ]", 28, api.ErrFixity)
	faultAt(t, "infix 5 ## val a = (1 ## 2 ] :: 3", 28, api.ErrSyntax)
	faultAt(t, "infix 5 ## val a ## b :: c = 1", 23, api.ErrFixity)
	faultAt(t, "infix 5 ## val a ## b * c :: d * e = 1", 27, api.ErrFixity)
	faultAt(t, "infix 5 ## val a = b :: c ## d", 27, api.ErrFixity)
	sameDecs(t, "infix 5 ## val a = b :: c = d ## e", "DFix infix 5(PName ##), DVal(NBind(PName a, EApp(EName =, ETuple(EApp(EName ::, ETuple(EName b, EName c)), EApp(EName ##, ETuple(EName d, EName e))))))")
	sameDecs(t, "infix 5 ## val a = b :: (c ## d)", "DFix infix 5(PName ##), DVal(NBind(PName a, EApp(EName ::, ETuple(EName b, EApp(EName ##, ETuple(EName c, EName d))))))")
	sameDecs(t, "infix 5 ## fun a ## b = c :: d", "DFix infix 5(PName ##), DFun(NFun(NClause ##(NPats(PTuple(PName a, PName b)), EApp(EName ::, ETuple(EName c, EName d)))))")
}
