package tree

import (
	"testing"
)

// P5.1: the chapter's examples.
func TestExamples(t *testing.T) {
	sameDecs(t, "val x = 1 + 2 * 3", "DVal(NBind(PName x, EApp(EName +, ETuple(NInt 1, EApp(EName *, ETuple(NInt 2, NInt 3))))))")
	sameDecs(t, "infix 6 ++ val a = 1 ++ 2", "DFix infix 6(PName ++), DVal(NBind(PName a, EApp(EName ++, ETuple(NInt 1, NInt 2))))")
	sameDecs(t, "val a = 1 ++ 2", "DVal(NBind(PName a, EApp(EApp(NInt 1, EName ++), NInt 2)))")
	sameDecs(t, "val a = 1 :: 2 @ 3 + 4", "DVal(NBind(PName a, EApp(EName ::, ETuple(NInt 1, EApp(EName @, ETuple(NInt 2, EApp(EName +, ETuple(NInt 3, NInt 4))))))))")
	sameDecs(t, "fun f 0 = 1 | f n = n * f (n - 1)", "DFun(NFun(NClause f(NPats(NInt 0), NInt 1), NClause f(NPats(PName n), EApp(EName *, ETuple(EName n, EApp(EName f, EApp(EName -, ETuple(EName n, NInt 1))))))))")
	sameDecs(t, "infix ++ fun a ++ b = a", "DFix infix 0(PName ++), DFun(NFun(NClause ++(NPats(PTuple(PName a, PName b)), EName a)))")
	sameExp(t, "fn x => x handle E => y", "EFn(NRule(PName x, EHandle(EName x, NRule(PName E, EName y))))")
	sameExp(t, "case a of b => case c of d => e | f => g", "ECase(EName a, NRule(PName b, ECase(EName c, NRule(PName d, EName e), NRule(PName f, EName g))))")
}

// P5.1: program, decs and every kind of dec.
func TestDeclarations(t *testing.T) {
	for _, s := range []string{"", ";", ";;;"} {
		if l, root := parsed(t, s); len(l) != 1 || root != 0 || show(l, root) != "NDecs" {
			t.Errorf("Parse(%q): %v", s, l)
		}
	}
	one := "DVal(NBind(PName x, NInt 1))"
	for _, s := range []string{"val x = 1 val x = 1", ";val x = 1;;val x = 1;", "val x = 1;val x = 1"} {
		sameDecs(t, s, one+", "+one)
	}
	sameDecs(t, "val x = 1 and y = 2 and _ = 3", "DVal(NBind(PName x, NInt 1), NBind(PName y, NInt 2), NBind(PWild, NInt 3))")
	sameDecs(t, "val rec f = g and g = f", "DRec(NBind(PName f, EName g), NBind(PName g, EName f))")
	sameDecs(t, "type t = int and 'a u = 'a and ('b) v = 'b and ('a, 'b) w = 'a", "DType(NTybind t(TCon int), NTybind u(TVar 'a, TVar 'a), NTybind v(TVar 'b, TVar 'b), NTybind w(TVar 'a, TVar 'b, TVar 'a))")
	sameDecs(t, "type + = int type * = t", "DType(NTybind +(TCon int)), DType(NTybind *(TCon t))")
	sameDecs(t, "datatype t = A", "DData(NDatbind t(NCon A))")
	sameDecs(t, "datatype 'a t = A of 'a | op B | :: of int | op :: and ('a, 'b) u = C", "DData(NDatbind t(TVar 'a, NCon A(TVar 'a), NCon B, NCon ::(TCon int), NCon ::), NDatbind u(TVar 'a, TVar 'b, NCon C))")
	sameDecs(t, "datatype t = datatype A.B.u datatype + = datatype *", "DCopy t(TCon A.B.u), DCopy +(TCon *)")
	sameDecs(t, "exception E", "DExn(NCon E)")
	sameDecs(t, "exception E of int and op F and op G of t and H = A.E and op + = op I and J = op A.+ and K = ::", "DExn(NCon E(TCon int), NCon F, NCon G(TCon t), NSame H(EName A.E), NSame +(EName I), NSame J(EName A.+), NSame K(EName ::))")
	sameDecs(t, "local in end", "DLocal(NDecs, NDecs)")
	sameDecs(t, "local val x = 1 in val x = 1; end", "DLocal(NDecs("+one+"), NDecs("+one+"))")
	sameDecs(t, "open A", "DOpen(SName A)")
	sameDecs(t, "open A B.C + A.*", "DOpen(SName A, SName B.C, SName +, SName A.*)")
	sameDecs(t, "structure S = A and T = B", "DStr(NStr S(SName A), NStr T(SName B))")
	sameDecs(t, "signature S = A and T = sig end", "DSig(NSig S(GName A), NSig T(GSig))")
	sameDecs(t, "functor F (X : A) = B and G (Y : sig end) = struct end", "DFct(NFct F(NSig X(GName A), SName B), NFct G(NSig Y(GSig), SStruct(NDecs)))")
}

// P5.1: the directives, with each digit and without.
func TestDirectives(t *testing.T) {
	for _, d := range []string{"0", "1", "2", "3", "4", "5", "6", "7", "8", "9"} {
		sameDecs(t, "infix "+d+" a", "DFix infix "+d+"(PName a)")
		sameDecs(t, "infixr "+d+" a + b", "DFix infixr "+d+"(PName a, PName +, PName b)")
	}
	sameDecs(t, "infix a", "DFix infix 0(PName a)")
	sameDecs(t, "infixr a a", "DFix infixr 0(PName a, PName a)")
	sameDecs(t, "nonfix + a *", "DFix nonfix(PName +, PName a, PName *)")
}

// P5.1: clauses, with the name ahead and between.
func TestClauses(t *testing.T) {
	sameDecs(t, "fun f x = y", "DFun(NFun(NClause f(NPats(PName x), EName y)))")
	sameDecs(t, "fun f x y 1 : t = z", "DFun(NFun(NClause f(NPats(PName x, PName y, NInt 1), EName z, TCon t)))")
	sameDecs(t, "fun f x = y | f x = z and g x = y", "DFun(NFun(NClause f(NPats(PName x), EName y), NClause f(NPats(PName x), EName z)), NFun(NClause g(NPats(PName x), EName y)))")
	sameDecs(t, "fun op f x = y | op + (a, b) : t = c | op = x = y", "DFun(NFun(NClause f(NPats(PName x), EName y), NClause +(NPats(PTuple(PName a, PName b)), EName c, TCon t), NClause =(NPats(PName x), EName y)))")
	sameDecs(t, "fun a + b = c", "DFun(NFun(NClause +(NPats(PTuple(PName a, PName b)), EName c)))")
	sameDecs(t, "fun a + b : t = c | op + x = y", "DFun(NFun(NClause +(NPats(PTuple(PName a, PName b)), EName c, TCon t), NClause +(NPats(PName x), EName y)))")
	sameDecs(t, "fun (a) :: (b, c) = d | A.x :: op + = d | _ :: [] = d | 1 :: {} = d | \"s\" :: #\"c\" = d | {a = x} :: () = d | [x] :: 2 = d", "DFun(NFun("+
		"NClause ::(NPats(PTuple(PName a, PTuple(PName b, PName c))), EName d), NClause ::(NPats(PTuple(PName A.x, PName +)), EName d), NClause ::(NPats(PTuple(PWild, PList)), EName d), NClause ::(NPats(PTuple(NInt 1, PRecord)), EName d), "+
		"NClause ::(NPats(PTuple(NString s, NChar c)), EName d), NClause ::(NPats(PTuple(PRecord(NField a(PName x)), PTuple)), EName d), NClause ::(NPats(PTuple(PList(PName x), NInt 2)), EName d)))")
	sameDecs(t, "fun x before (y : unit) = x", "DFun(NFun(NClause before(NPats(PTuple(PName x, PTyped(PName y, TCon unit))), EName x)))")
	sameDecs(t, "fun == p = q", "DFun(NFun(NClause ==(NPats(PName p), EName q)))")
	sameDecs(t, "fun f (x + y) _ = x = y", "DFun(NFun(NClause f(NPats(PApp(PName +, PTuple(PName x, PName y)), PWild), EApp(EName =, ETuple(EName x, EName y)))))")
	sameDecs(t, "fun f A.x op + = y", "DFun(NFun(NClause f(NPats(PName A.x, PName +), EName y)))")
}

// P5.1: expressions.
func TestExpressions(t *testing.T) {
	for s, want := range map[string]string{
		"12":                            "NInt 12",
		"~0x1F":                         "NInt ~0x1F",
		"1.5":                           "NReal 1.5",
		`"a\nb"`:                        "NString a\nb",
		`#"a"`:                          "NChar a",
		"x":                             "EName x",
		"op x":                          "EName x",
		"op +":                          "EName +",
		"op =":                          "EName =",
		"A.B.x":                         "EName A.B.x",
		"A.+":                           "EName A.+",
		"#1":                            "ESelect 1",
		"#12":                           "ESelect 12",
		"# a":                           "ESelect a",
		"# + 1":                         "EApp(ESelect +, NInt 1)",
		"# * # 2":                       "EApp(ESelect *, ESelect 2)",
		"{}":                            "ERecord",
		"{a = 1}":                       "ERecord(NField a(NInt 1))",
		"{a = 1, 2 = x = y, + = 3}":     "ERecord(NField a(NInt 1), NField 2(EApp(EName =, ETuple(EName x, EName y))), NField +(NInt 3))",
		"()":                            "ETuple",
		"(a)":                           "EName a",
		"((a))":                         "EName a",
		"(a, b)":                        "ETuple(EName a, EName b)",
		"(a, b, (c, d), ())":            "ETuple(EName a, EName b, ETuple(EName c, EName d), ETuple)",
		"(a; b)":                        "ESeq(EName a, EName b)",
		"(a; b; (c; d))":                "ESeq(EName a, EName b, ESeq(EName c, EName d))",
		"[]":                            "EList",
		"[a]":                           "EList(EName a)",
		"[a, [], (b)]":                  "EList(EName a, EList, EName b)",
		"let in a end":                  "ELet(NDecs, EName a)",
		"let val x = 1; in a; b; c end": "ELet(NDecs(DVal(NBind(PName x, NInt 1))), EName a, EName b, EName c)",
		"f x":                           "EApp(EName f, EName x)",
		"f x 1 \"s\" #\"c\" 1.5":        "EApp(EApp(EApp(EApp(EApp(EName f, EName x), NInt 1), NString s), NChar c), NReal 1.5)",
		"f () [] {} A.x op + #1 let in x end (a; b)": "EApp(EApp(EApp(EApp(EApp(EApp(EApp(EApp(EName f, ETuple), EList), ERecord), EName A.x), EName +), ESelect 1), ELet(NDecs, EName x)), ESeq(EName a, EName b))",
		"1 2":                               "EApp(NInt 1, NInt 2)",
		"f x : t":                           "ETyped(EApp(EName f, EName x), TCon t)",
		"a : t : u":                         "ETyped(ETyped(EName a, TCon t), TCon u)",
		"a + b : t":                         "ETyped(EApp(EName +, ETuple(EName a, EName b)), TCon t)",
		"a : t andalso b : u":               "EAnd(ETyped(EName a, TCon t), ETyped(EName b, TCon u))",
		"a andalso b andalso c":             "EAnd(EAnd(EName a, EName b), EName c)",
		"a orelse b orelse c":               "EOr(EOr(EName a, EName b), EName c)",
		"a andalso b orelse c andalso d":    "EOr(EAnd(EName a, EName b), EAnd(EName c, EName d))",
		"a orelse b andalso c orelse d":     "EOr(EOr(EName a, EAnd(EName b, EName c)), EName d)",
		"a handle x => b":                   "EHandle(EName a, NRule(PName x, EName b))",
		"a orelse b handle x => c | y => d": "EHandle(EOr(EName a, EName b), NRule(PName x, EName c), NRule(PName y, EName d))",
		"(a handle x => b) handle y => c":   "EHandle(EHandle(EName a, NRule(PName x, EName b)), NRule(PName y, EName c))",
		"raise a":                           "ERaise(EName a)",
		"raise raise a b":                   "ERaise(ERaise(EApp(EName a, EName b)))",
		"if a then b else c":                "EIf(EName a, EName b, EName c)",
		"while a do b":                      "EWhile(EName a, EName b)",
		"case a of b => c":                  "ECase(EName a, NRule(PName b, EName c))",
		"case a of b => c | d => e":         "ECase(EName a, NRule(PName b, EName c), NRule(PName d, EName e))",
		"fn a => b":                         "EFn(NRule(PName a, EName b))",
		"fn a => b | _ => c":                "EFn(NRule(PName a, EName b), NRule(PWild, EName c))",
		"a andalso fn b => c":               "EAnd(EName a, EFn(NRule(PName b, EName c)))",
		"a orelse raise b":                  "EOr(EName a, ERaise(EName b))",
	} {
		sameExp(t, s, want)
	}
}

// P5.1: what may be longer is longer, and belongs to the innermost phrase.
func TestInnermost(t *testing.T) {
	for s, want := range map[string]string{
		"raise a handle x => b":                  "ERaise(EHandle(EName a, NRule(PName x, EName b)))",
		"if a then b else c handle x => d":       "EIf(EName a, EName b, EHandle(EName c, NRule(PName x, EName d)))",
		"if a then b else c orelse d":            "EIf(EName a, EName b, EOr(EName c, EName d))",
		"if a then b else c : t":                 "EIf(EName a, EName b, ETyped(EName c, TCon t))",
		"if a then if b then c else d else e":    "EIf(EName a, EIf(EName b, EName c, EName d), EName e)",
		"while a do b andalso c":                 "EWhile(EName a, EAnd(EName b, EName c))",
		"a andalso if b then c else d orelse e":  "EAnd(EName a, EIf(EName b, EName c, EOr(EName d, EName e)))",
		"fn x => fn y => a | z => b":             "EFn(NRule(PName x, EFn(NRule(PName y, EName a), NRule(PName z, EName b))))",
		"case a of x => fn y => b | z => c":      "ECase(EName a, NRule(PName x, EFn(NRule(PName y, EName b), NRule(PName z, EName c))))",
		"fn x => a handle y => b | z => c":       "EFn(NRule(PName x, EHandle(EName a, NRule(PName y, EName b), NRule(PName z, EName c))))",
		"a handle x => b handle y => c":          "EHandle(EName a, NRule(PName x, EHandle(EName b, NRule(PName y, EName c))))",
		"a handle x => b | y => c handle z => d": "EHandle(EName a, NRule(PName x, EName b), NRule(PName y, EHandle(EName c, NRule(PName z, EName d))))",
		"case case a of x => b of y => c":        "ECase(ECase(EName a, NRule(PName x, EName b)), NRule(PName y, EName c))",
		"fn x as y : t => a":                     "EFn(NRule(PAs x(PTyped(PName y, TCon t)), EName a))",
		"a : t list + u":                         "ETyped(EName a, TCon u(TCon +(TCon list(TCon t))))",
	} {
		sameExp(t, s, want)
	}
	sameDecs(t, "fun f x = case x of a => b | c => d | e => g", "DFun(NFun(NClause f(NPats(PName x), ECase(EName x, NRule(PName a, EName b), NRule(PName c, EName d), NRule(PName e, EName g)))))")
	sameDecs(t, "fun f x = (case x of a => b) | f y = c", "DFun(NFun(NClause f(NPats(PName x), ECase(EName x, NRule(PName a, EName b))), NClause f(NPats(PName y), EName c)))")
	faultBehind(t, "fun f x = case x of a => b | f y ¦= c")
}

// P5.1: patterns.
func TestPatterns(t *testing.T) {
	for s, want := range map[string]string{
		"_":                      "PWild",
		"~5":                     "NInt ~5",
		`"s"`:                    "NString s",
		`#"c"`:                   "NChar c",
		"x":                      "PName x",
		"op x":                   "PName x",
		"op +":                   "PName +",
		"op =":                   "PName =",
		"A.x":                    "PName A.x",
		"A.::":                   "PName A.::",
		"()":                     "PTuple",
		"(x)":                    "PName x",
		"(x, y)":                 "PTuple(PName x, PName y)",
		"(x, (y, _), ())":        "PTuple(PName x, PTuple(PName y, PWild), PTuple)",
		"[]":                     "PList",
		"[x]":                    "PList(PName x)",
		"[x, 1, []]":             "PList(PName x, NInt 1, PList)",
		"{}":                     "PRecord",
		"{...}":                  "PRecord(PDots)",
		"{a = x}":                "PRecord(NField a(PName x))",
		"{1 = x, + = y, 20 = z}": "PRecord(NField 1(PName x), NField +(PName y), NField 20(PName z))",
		"{a}":                    "PRecord(NField a(PName a))",
		"{+}":                    "PRecord(NField +(PName +))",
		"{a : t}":                "PRecord(NField a(PTyped(PName a, TCon t)))",
		"{a as x}":               "PRecord(NField a(PAs a(PName x)))",
		"{a : t as x}":           "PRecord(NField a(PAs a(PTyped(PName x, TCon t))))",
		"{a : t as x : u}":       "PRecord(NField a(PAs a(PTyped(PTyped(PName x, TCon u), TCon t))))",
		"{a, b = y, c : t, ...}": "PRecord(NField a(PName a), NField b(PName y), NField c(PTyped(PName c, TCon t)), PDots)",
		"x : t":                  "PTyped(PName x, TCon t)",
		"x : t : u":              "PTyped(PTyped(PName x, TCon t), TCon u)",
		"x : t : u : v":          "PTyped(PTyped(PTyped(PName x, TCon t), TCon u), TCon v)",
		"op x : t":               "PTyped(PName x, TCon t)",
		"op = : t":               "PTyped(PName =, TCon t)",
		"A.x : t":                "PTyped(PName A.x, TCon t)",
		"(x) : t":                "PTyped(PName x, TCon t)",
		"_ : t : u":              "PTyped(PTyped(PWild, TCon t), TCon u)",
		"C x : t":                "PTyped(PApp(PName C, PName x), TCon t)",
		"x :: y : t":             "PTyped(PApp(PName ::, PTuple(PName x, PName y)), TCon t)",
		"x as y":                 "PAs x(PName y)",
		"op x as y":              "PAs x(PName y)",
		"op + as y":              "PAs +(PName y)",
		"op = as y":              "PAs =(PName y)",
		"x as y as z":            "PAs x(PAs y(PName z))",
		"x : t as y":             "PAs x(PTyped(PName y, TCon t))",
		"op + : t as y":          "PAs +(PTyped(PName y, TCon t))",
		"x as y : t":             "PAs x(PTyped(PName y, TCon t))",
		"x : t as y : u : v":     "PAs x(PTyped(PTyped(PTyped(PName y, TCon u), TCon v), TCon t))",
		"x as a :: b":            "PAs x(PApp(PName ::, PTuple(PName a, PName b)))",
		"x : t -> u list as y":   "PAs x(PTyped(PName y, TArrow(TCon t, TCon list(TCon u))))",
		"C x":                    "PApp(PName C, PName x)",
		"A.C (x, y)":             "PApp(PName A.C, PTuple(PName x, PName y))",
		"op :: (x, y)":           "PApp(PName ::, PTuple(PName x, PName y))",
		"op C op +":              "PApp(PName C, PName +)",
		"C A.D":                  "PApp(PName C, PName A.D)",
		"C {a, ...}":             "PApp(PName C, PRecord(NField a(PName a), PDots))",
		"C 1 :: D _ :: E":        "PApp(PName ::, PTuple(PApp(PName C, NInt 1), PApp(PName ::, PTuple(PApp(PName D, PWild), PName E))))",
		"a + b * c - d":          "PApp(PName -, PTuple(PApp(PName +, PTuple(PName a, PApp(PName *, PTuple(PName b, PName c)))), PName d))",
		"(x as y, z : t)":        "PTuple(PAs x(PName y), PTyped(PName z, TCon t))",
	} {
		samePat(t, s, want)
	}
}

// P5.1: types.
func TestTypes(t *testing.T) {
	for s, want := range map[string]string{
		"'a":                     "TVar 'a",
		"int":                    "TCon int",
		"A.B.t":                  "TCon A.B.t",
		"+":                      "TCon +",
		"A.*":                    "TCon A.*",
		"(t)":                    "TCon t",
		"t u":                    "TCon u(TCon t)",
		"'a t A.u v":             "TCon v(TCon A.u(TCon t(TVar 'a)))",
		"(t) u":                  "TCon u(TCon t)",
		"(t, u) v":               "TCon v(TCon t, TCon u)",
		"(t, u, 'a) A.v w":       "TCon w(TCon A.v(TCon t, TCon u, TVar 'a))",
		"{}":                     "TRec",
		"{a : t}":                "TRec(NField a(TCon t))",
		"{a : t, 1 : u, * : v}":  "TRec(NField a(TCon t), NField 1(TCon u), NField *(TCon v))",
		"{} list":                "TCon list(TRec)",
		"t * u":                  "TTuple(TCon t, TCon u)",
		"t * u list * v":         "TTuple(TCon t, TCon list(TCon u), TCon v)",
		"(t * u) * v":            "TTuple(TTuple(TCon t, TCon u), TCon v)",
		"t -> u":                 "TArrow(TCon t, TCon u)",
		"t -> u -> v":            "TArrow(TCon t, TArrow(TCon u, TCon v))",
		"(t -> u) -> v":          "TArrow(TArrow(TCon t, TCon u), TCon v)",
		"t * u -> v * w":         "TArrow(TTuple(TCon t, TCon u), TTuple(TCon v, TCon w))",
		"(t -> u) list":          "TCon list(TArrow(TCon t, TCon u))",
		"(t -> u, v * w) x -> y": "TArrow(TCon x(TArrow(TCon t, TCon u), TTuple(TCon v, TCon w)), TCon y)",
		"t + -":                  "TCon -(TCon +(TCon t))",
	} {
		sameTy(t, s, want)
	}
}

// P5.1: structures, signatures, functors.
func TestModules(t *testing.T) {
	for s, want := range map[string]string{
		"struct end":                 "SStruct(NDecs)",
		"struct val x = 1 ; end":     "SStruct(NDecs(DVal(NBind(PName x, NInt 1))))",
		"A":                          "SName A",
		"A.B":                        "SName A.B",
		"+":                          "SName +",
		"F (A)":                      "SApp F(SName A)",
		"+ (A.B : G)":                "SApp +(STrans(SName A.B, GName G))",
		"F (G (struct end))":         "SApp F(SApp G(SStruct(NDecs)))",
		"F (let in A end)":           "SApp F(SLet(NDecs, SName A))",
		"F ()":                       "SApp F(SStruct(NDecs))",
		"F (;)":                      "SApp F(SStruct(NDecs))",
		"F (; val x = 1;)":           "SApp F(SStruct(NDecs(DVal(NBind(PName x, NInt 1)))))",
		"F (val x = 1 open A)":       "SApp F(SStruct(NDecs(DVal(NBind(PName x, NInt 1)), DOpen(SName A))))",
		"let in A end":               "SLet(NDecs, SName A)",
		"let val x = 1 in A : G end": "SLet(NDecs(DVal(NBind(PName x, NInt 1))), STrans(SName A, GName G))",
		"A : G":                      "STrans(SName A, GName G)",
		"A :> G":                     "SOpaque(SName A, GName G)",
		"A : G :> H : I":             "STrans(SOpaque(STrans(SName A, GName G), GName H), GName I)",
		"F (A) : G where type t = u": "STrans(SApp F(SName A), GWhere(GName G, NWhere t(TCon u)))",
		"struct structure T = A end": "SStruct(NDecs(DStr(NStr T(SName A))))",
		"struct signature T = A functor F (X : G) = A end": "SStruct(NDecs(DSig(NSig T(GName A)), DFct(NFct F(NSig X(GName G), SName A))))",
	} {
		sameStr(t, s, want)
	}
	for _, word := range []string{"val x = 1", "fun f x = 1", "type t = u", "datatype t = A", "exception E", "local in end", "open A", "infix a", "infixr a", "nonfix a", "structure A = B", "signature A = B", "functor F (A : B) = C"} {
		sameStr(t, "F ("+word+")", "SApp F(SStruct(NDecs("+decsOf(t, word)+")))")
	}
	sameDecs(t, "structure S : G = A and T :> H = B : I", "DStr(NStr S(STrans(SName A, GName G)), NStr T(SOpaque(STrans(SName B, GName I), GName H)))")
	sameDecs(t, "structure S : G where type t = u = A", "DStr(NStr S(STrans(SName A, GWhere(GName G, NWhere t(TCon u)))))")
	sameDecs(t, "functor F (X : G) : H = A and E (X : G) :> H = A : I", "DFct(NFct F(NSig X(GName G), STrans(SName A, GName H)), NFct E(NSig X(GName G), SOpaque(STrans(SName A, GName I), GName H)))")
	sameDecs(t, "functor + ( * : sig end) = X", "DFct(NFct +(NSig *(GSig), SName X))")
}

// P5.1: signatures and every kind of spec.
func TestSignatures(t *testing.T) {
	for s, want := range map[string]string{
		"A":                  "GName A",
		"+":                  "GName +",
		"sig end":            "GSig",
		"sig ; ; end":        "GSig",
		"A where type t = u": "GWhere(GName A, NWhere t(TCon u))",
		"sig end where type 'a A.t = u where type ('a, 'b) * = v": "GWhere(GWhere(GSig, NWhere A.t(TVar 'a, TCon u)), NWhere *(TVar 'a, TVar 'b, TCon v))",
		"sig val x : t end":                                        "GSig(XVal(NCon x(TCon t)))",
		"sig val x : t and + : u -> v; val y : w end":              "GSig(XVal(NCon x(TCon t), NCon +(TArrow(TCon u, TCon v))), XVal(NCon y(TCon w)))",
		"sig type t end":                                           "GSig(XType(NCon t))",
		"sig type t and 'a u and ('a, 'b) v end":                   "GSig(XType(NCon t, NCon u(TVar 'a), NCon v(TVar 'a, TVar 'b)))",
		"sig type 'a t = u end":                                    "GSig(XAlias(NTybind t(TVar 'a, TCon u)))",
		"sig type t = u and ('a) v = 'a end":                       "GSig(XAlias(NTybind t(TCon u), NTybind v(TVar 'a, TVar 'a)))",
		"sig eqtype t end":                                         "GSig(XEq(NCon t))",
		"sig eqtype t and 'a u end":                                "GSig(XEq(NCon t, NCon u(TVar 'a)))",
		"sig datatype t = A and 'a u = B of 'a | op C end":         "GSig(XData(NDatbind t(NCon A), NDatbind u(TVar 'a, NCon B(TVar 'a), NCon C)))",
		"sig exception E end":                                      "GSig(XExn(NCon E))",
		"sig exception E of t and + and F end":                     "GSig(XExn(NCon E(TCon t), NCon +, NCon F))",
		"sig structure A : G end":                                  "GSig(XStr(NSig A(GName G)))",
		"sig structure A : G where type t = u and B : sig end end": "GSig(XStr(NSig A(GWhere(GName G, NWhere t(TCon u))), NSig B(GSig)))",
		"sig type t type u = t eqtype v datatype w = A exception E structure B : G val x : t end": "GSig(XType(NCon t), XAlias(NTybind u(TCon t)), XEq(NCon v), XData(NDatbind w(NCon A)), XExn(NCon E), XStr(NSig B(GName G)), XVal(NCon x(TCon t)))",
	} {
		sameSig(t, s, want)
	}
}

// P5.1: a constant is no reserved word, no sign and no name, whatever it says; a name or a type variable is no reserved word that it looks like.
func TestConstantsSayWords(t *testing.T) {
	sameDecs(t, `val "=" = ";"`, "DVal(NBind(NString =, NString ;))")
	sameDecs(t, `val C "as" = f "+" #"=" "in" "handle" : t`, "DVal(NBind(PApp(PName C, NString as), ETyped(EApp(EApp(EApp(EApp(EName f, NString +), NChar =), NString in), NString handle), TCon t)))")
	sameDecs(t, `fun f "+" = 1 | f "op" = 2`, "DFun(NFun(NClause f(NPats(NString +), NInt 1), NClause f(NPats(NString op), NInt 2)))")
	sameDecs(t, `val ("(", #")") = ("(", #",", [])`, "DVal(NBind(PTuple(NString (, NChar )), ETuple(NString (, NChar ,, EList)))")
	sameDecs(t, "type t = 'val", "DType(NTybind t(TVar 'val))")
	faultBehind(t, `val C "a" ¦"+" = 1`)
	faultBehind(t, `val x "=" ¦1`)
	faultBehind(t, `val x = let ¦"in" 1 end`)
	faultBehind(t, `¦"val" x = 1`)
	faultBehind(t, `fun "x" ¦"+" y = 1`)
	faultBehind(t, `type t = u ¦"*" v`)
	faultBehind(t, `datatype t ¦"=" datatype u`)
}

// P5.1: labels of digits.
func TestLabels(t *testing.T) {
	for _, s := range []string{"1", "2", "9", "10", "90", "19", "99999999999999999999"} {
		sameExp(t, "#"+s, "ESelect "+s)
		sameExp(t, "{"+s+" = a}", "ERecord(NField "+s+"(EName a))")
		samePat(t, "{"+s+" = a}", "PRecord(NField "+s+"(PName a))")
		sameTy(t, "{"+s+" : a}", "TRec(NField "+s+"(TCon a))")
	}
	for _, s := range []string{"0", "01", "00", "~1", "0x1", "~0x1", "1.5", "1E5", "A.b", "op a", "=", "'a", "\"a\""} {
		faultBehind(t, "val v = # ¦"+s)
		faultBehind(t, "val v = {¦"+s+" = a}")
		faultBehind(t, "val {¦"+s+" = a} = 1")
		faultBehind(t, "type t = {¦"+s+" : a}")
	}
}
