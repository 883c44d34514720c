package derive

import (
	"testing"

	"kiln/api"
)

// P6.1: expressions.
func TestExpressions(t *testing.T) {
	for s, want := range map[string]string{
		"()":                       "ERecord",
		"(a, 1)":                   "ERecord(NField 1(EName a), NField 2(NInt 1))",
		"(a, b, c)":                "ERecord(NField 1(EName a), NField 2(EName b), NField 3(EName c))",
		"{}":                       "ERecord",
		"{b = 1, 2 = (), a = A.x}": "ERecord(NField b(NInt 1), NField 2(ERecord), NField a(EName A.x))",

		"#lab":   "EFn(NRule(PRecord(NField lab(PName  1), PDots), EName  1))",
		"#2 x":   "EApp(EFn(NRule(PRecord(NField 2(PName  1), PDots), EName  1)), EName x)",
		"[]":     "EName nil",
		"[1]":    "EApp(EName ::, ERecord(NField 1(NInt 1), NField 2(EName nil)))",
		"[a, b]": "EApp(EName ::, ERecord(NField 1(EName a), NField 2(EApp(EName ::, ERecord(NField 1(EName b), NField 2(EName nil))))))",
		"[[]]":   "EApp(EName ::, ERecord(NField 1(EName nil), NField 2(EName nil)))",
		"a :: b": "EApp(EName ::, ERecord(NField 1(EName a), NField 2(EName b)))",

		"case a of b => c":          "EApp(EFn(NRule(PName b, EName c)), EName a)",
		"case a of 1 => c | _ => d": "EApp(EFn(NRule(NInt 1, EName c), NRule(PWild, EName d)), EName a)",
		"if a then b else c":        "EApp(EFn(NRule(PName true, EName b), NRule(PName false, EName c)), EName a)",
		"a andalso b":               "EApp(EFn(NRule(PName true, EName b), NRule(PName false, EName false)), EName a)",
		"a orelse b":                "EApp(EFn(NRule(PName true, EName true), NRule(PName false, EName b)), EName a)",
		"a andalso b andalso c":     "EApp(EFn(NRule(PName true, EName c), NRule(PName false, EName false)), EApp(EFn(NRule(PName true, EName b), NRule(PName false, EName false)), EName a))",
		"(a; b)":                    "EApp(EFn(NRule(PWild, EName b)), EName a)",
		"(a; b; c)":                 "EApp(EFn(NRule(PWild, EApp(EFn(NRule(PWild, EName c)), EName b))), EName a)",

		"while a do b": "ELet(NDecs(DRec(NBind(PName  w, EFn(NRule(PRecord, EApp(EFn(" +
			"NRule(PName true, EApp(EFn(NRule(PWild, EApp(EName  w, ERecord))), EName b)), NRule(PName false, ERecord)), EName a)))))), EApp(EName  w, ERecord))",

		"let in a end":            "ELet(NDecs, EName a)",
		"let val b = () in a end": "ELet(NDecs(DVal(NBind(PName b, ERecord))), EName a)",
		"let in a; b end":         "ELet(NDecs, EApp(EFn(NRule(PWild, EName b)), EName a))",
		"let in a; b; c end":      "ELet(NDecs, EApp(EFn(NRule(PWild, EApp(EFn(NRule(PWild, EName c)), EName b))), EName a))",
		"let infix 5 ## in a end": "ELet(NDecs, EName a)",

		"fn () => () | _ => []":      "EFn(NRule(PRecord, ERecord), NRule(PWild, EName nil))",
		"a handle () => () | _ => 1": "EHandle(EName a, NRule(PRecord, ERecord), NRule(PWild, NInt 1))",
		"raise ()":                   "ERaise(ERecord)",
		"f () : t * u":               "ETyped(EApp(EName f, ERecord), TRec(NField 1(TCon t), NField 2(TCon u)))",
		`f 1 1.5 "s" #"c" A.b`:       "EApp(EApp(EApp(EApp(EApp(EName f, NInt 1), NReal 1.5), NString s), NChar c), EName A.b)",
	} {
		sameExp(t, s, want)
	}
}

// P6.1: patterns and types.
func TestPatternsAndTypes(t *testing.T) {
	for s, want := range map[string]string{
		"()":               "PRecord",
		"(a, _)":           "PRecord(NField 1(PName a), NField 2(PWild))",
		"[]":               "PName nil",
		"[a]":              "PApp(PName ::, PRecord(NField 1(PName a), NField 2(PName nil)))",
		"[a, 1]":           "PApp(PName ::, PRecord(NField 1(PName a), NField 2(PApp(PName ::, PRecord(NField 1(NInt 1), NField 2(PName nil))))))",
		"a :: b":           "PApp(PName ::, PRecord(NField 1(PName a), NField 2(PName b)))",
		"A.C ()":           "PApp(PName A.C, PRecord)",
		"x as ()":          "PAs x(PRecord)",
		"() : unit":        "PTyped(PRecord, TCon unit)",
		"{a, b = (), ...}": "PRecord(NField a(PName a), NField b(PRecord), PDots)",
		"{...}":            "PRecord(PDots)",
		"_ : a * b * c":    "PTyped(PWild, TRec(NField 1(TCon a), NField 2(TCon b), NField 3(TCon c)))",
		"_ : {a : b * c, 1 : {}} -> (a * b) list": "PTyped(PWild, TArrow(TRec(NField a(TRec(NField 1(TCon b), NField 2(TCon c))), NField 1(TRec)), TCon list(TRec(NField 1(TCon a), NField 2(TCon b)))))",
	} {
		samePat(t, s, want)
	}
}

// P6.1: declarations.
func TestDeclarations(t *testing.T) {
	for s, want := range map[string]string{
		"":           "",
		"infix 6 ++": "",
		"infix a nonfix b infixr 3 c val x = 1 infix d": "DVal(NBind(PName x, NInt 1))",
		"local infix a in infix b end":                  "DLocal(NDecs, NDecs)",
		"structure S = struct infix a open A end":       "DStr(NStr S(SStruct(NDecs(DOpen(SName A)))))",

		"fun f x = 1":                       "DRec(NBind(PName f, EFn(NRule(PName x, NInt 1))))",
		"fun f 0 = 1 | f n : t = n":         "DRec(NBind(PName f, EFn(NRule(NInt 0, NInt 1), NRule(PName n, ETyped(EName n, TCon t)))))",
		"fun a + b = c":                     "DRec(NBind(PName +, EFn(NRule(PRecord(NField 1(PName a), NField 2(PName b)), EName c))))",
		"fun f () = 1 and g [] : a * b = 2": "DRec(NBind(PName f, EFn(NRule(PRecord, NInt 1))), NBind(PName g, EFn(NRule(PName nil, ETyped(NInt 2, TRec(NField 1(TCon a), NField 2(TCon b)))))))",
		"fun f 0 y = 1 | f x y = x": "DRec(NBind(PName f, EFn(NRule(PName  1, EFn(NRule(PName  2, EApp(EFn(" +
			"NRule(PRecord(NField 1(NInt 0), NField 2(PName y)), NInt 1), NRule(PRecord(NField 1(PName x), NField 2(PName y)), EName x)" +
			"), ERecord(NField 1(EName  1), NField 2(EName  2)))))))))",
		"fun f _ () [] : t = ()": "DRec(NBind(PName f, EFn(NRule(PName  1, EFn(NRule(PName  2, EFn(NRule(PName  3, EApp(EFn(" +
			"NRule(PRecord(NField 1(PWild), NField 2(PRecord), NField 3(PName nil)), ETyped(ERecord, TCon t))" +
			"), ERecord(NField 1(EName  1), NField 2(EName  2), NField 3(EName  3)))))))))))",

		"val rec f : t = fn () => 1 and g = (fn _ => 2) : u":        "DRec(NBind(PTyped(PName f, TCon t), EFn(NRule(PRecord, NInt 1))), NBind(PName g, ETyped(EFn(NRule(PWild, NInt 2)), TCon u)))",
		"type t = a * b and 'a u = 'a":                              "DType(NTybind t(TRec(NField 1(TCon a), NField 2(TCon b))), NTybind u(TVar 'a, TVar 'a))",
		"datatype 'a t = A | B of 'a * b datatype u = datatype A.t": "DData(NDatbind t(TVar 'a, NCon A, NCon B(TRec(NField 1(TVar 'a), NField 2(TCon b))))), DCopy u(TCon A.t)",
		"exception E of a * b and F = A.E":                          "DExn(NCon E(TRec(NField 1(TCon a), NField 2(TCon b))), NSame F(EName A.E))",
		"local val a = () in val b = [] end":                        "DLocal(NDecs(DVal(NBind(PName a, ERecord))), NDecs(DVal(NBind(PName b, EName nil))))",
		"open A B.C":                                                "DOpen(SName A, SName B.C)",
	} {
		sameForm(t, s, want)
	}
}

// P6.1: modules.
func TestModules(t *testing.T) {
	for s, want := range map[string]string{
		"structure S : G = F (val x = ()) and T :> sig end = let val y = [] in A.B end": "DStr(NStr S(STrans(SApp F(SStruct(NDecs(DVal(NBind(PName x, ERecord))))), GName G)), NStr T(SOpaque(SLet(NDecs(DVal(NBind(PName y, EName nil))), SName A.B), GSig)))",
		"signature S = G where type 'a A.t = 'a * u":                                    "DSig(NSig S(GWhere(GName G, NWhere A.t(TVar 'a, TRec(NField 1(TVar 'a), NField 2(TCon u))))))",
		"functor F (X : sig val x : a * b end) = X":                                     "DFct(NFct F(NSig X(GSig(XVal(NCon x(TRec(NField 1(TCon a), NField 2(TCon b)))))), SName X))",
		"signature S = sig type 'a t and u type v = a * b eqtype w datatype d = A of a * b exception E of a * b structure T : G end": "DSig(NSig S(GSig(XType(NCon t(TVar 'a), NCon u), XAlias(NTybind v(TRec(NField 1(TCon a), NField 2(TCon b)))), XEq(NCon w), " +
			"XData(NDatbind d(NCon A(TRec(NField 1(TCon a), NField 2(TCon b))))), XExn(NCon E(TRec(NField 1(TCon a), NField 2(TCon b)))), XStr(NSig T(GName G)))))",
	} {
		sameForm(t, s, want)
	}
}

// P6.1: each root has a bare form; those of which the table tells within a DFun or an NDecs alone, too.
func TestRoots(t *testing.T) {
	l, _ := parsed(t, "infix 6 ++ fun f (a, b) = 1 and g x [] : t = 2")
	for i, want := range map[api.NodeKind]string{
		api.PTuple: "PRecord(NField 1(PName a), NField 2(PName b))",
		api.DFix:   "NDecs",
		api.PList:  "PName nil",
		api.NInt:   "NInt 1",
	} {
		for k := range l {
			if l[k].Kind == i {
				if m, top := derived(t, l, k); show(m, top) != want {
					t.Errorf("Derive(%s) = %s; want %s", show(l, k), show(m, top), want)
				}
				break
			}
		}
	}
	const f, g = "EFn(NRule(PRecord(NField 1(PName a), NField 2(PName b)), NInt 1))", "NRule(PRecord(NField 1(PName x), NField 2(PName nil)), ETyped(NInt 2, TCon t))"
	for from, want := range map[string]string{
		"NPats(PTuple(PName a, PName b))":                          "PRecord(NField 1(PName a), NField 2(PName b))",
		"NPats(PName x, PList)":                                    "PRecord(NField 1(PName x), NField 2(PName nil))",
		"NClause f(NPats(PTuple(PName a, PName b)), NInt 1)":       "NRule(PRecord(NField 1(PName a), NField 2(PName b)), NInt 1)",
		"NClause g(NPats(PName x, PList), NInt 2, TCon t)":         g,
		"NFun(NClause f(NPats(PTuple(PName a, PName b)), NInt 1))": "NBind(PName f, " + f + ")",
		"NFun(NClause g(NPats(PName x, PList), NInt 2, TCon t))":   "NBind(PName g, EFn(NRule(PName  1, EFn(NRule(PName  2, EApp(EFn(" + g + "), ERecord(NField 1(EName  1), NField 2(EName  2))))))))",
	} {
		met := false
		for k := range l {
			if show(l, k) == from {
				met = true
				if m, top := derived(t, l, k); show(m, top) != want {
					t.Errorf("Derive(%s) = %s; want %s", from, show(m, top), want)
				}
			}
		}
		if !met {
			t.Errorf("no %s", from)
		}
	}
}
