package tree

import (
	"fmt"
	"math/rand"
	"slices"
	"strings"
	"testing"

	"kiln/api"
	"kiln/lex"
)

// kindNames are the kinds of nodes, by their names.
var kindNames = map[api.NodeKind]string{
	api.NInt: "NInt", api.NReal: "NReal", api.NString: "NString", api.NChar: "NChar",
	api.EName: "EName", api.ERecord: "ERecord", api.ESelect: "ESelect", api.ETuple: "ETuple", api.EList: "EList", api.ESeq: "ESeq", api.ELet: "ELet", api.EApp: "EApp", api.ETyped: "ETyped", api.EAnd: "EAnd", api.EOr: "EOr", api.EHandle: "EHandle", api.ERaise: "ERaise", api.EIf: "EIf", api.EWhile: "EWhile", api.ECase: "ECase", api.EFn: "EFn", api.NRule: "NRule", api.NField: "NField",
	api.PWild: "PWild", api.PName: "PName", api.PApp: "PApp", api.PTuple: "PTuple", api.PRecord: "PRecord", api.PDots: "PDots", api.PList: "PList", api.PTyped: "PTyped", api.PAs: "PAs",
	api.TVar: "TVar", api.TCon: "TCon", api.TTuple: "TTuple", api.TRec: "TRec", api.TArrow: "TArrow",
	api.NDecs: "NDecs", api.DVal: "DVal", api.DRec: "DRec", api.NBind: "NBind", api.DFun: "DFun", api.NFun: "NFun", api.NClause: "NClause", api.NPats: "NPats", api.DType: "DType", api.NTybind: "NTybind", api.DData: "DData", api.NDatbind: "NDatbind", api.NCon: "NCon", api.DCopy: "DCopy", api.DExn: "DExn", api.NSame: "NSame", api.DLocal: "DLocal", api.DOpen: "DOpen", api.DFix: "DFix", api.DStr: "DStr", api.NStr: "NStr", api.DSig: "DSig", api.NSig: "NSig", api.DFct: "DFct", api.NFct: "NFct",
	api.SStruct: "SStruct", api.SName: "SName", api.SApp: "SApp", api.STrans: "STrans", api.SOpaque: "SOpaque", api.SLet: "SLet",
	api.GSig: "GSig", api.GName: "GName", api.GWhere: "GWhere", api.NWhere: "NWhere", api.XVal: "XVal", api.XType: "XType", api.XEq: "XEq", api.XAlias: "XAlias", api.XData: "XData", api.XExn: "XExn", api.XStr: "XStr",
}

// scan is a text's tokens.
func scan(t testing.TB, s string) []api.Token {
	t.Helper()
	l, _, _, e := lex.Scan(s)
	if e != api.OK {
		t.Fatalf("Scan(%q): %d", head70(s), e)
	}
	return l
}

// parsed is a text's tree, which it must have.
func parsed(t testing.TB, s string) ([]api.Node, int) {
	t.Helper()
	l, root, line, column, e := Parse(scan(t, s))
	if line != 0 || column != 0 || e != api.OK {
		t.Fatalf("Parse(%q): %d, %d, %d", head70(s), line, column, e)
	}
	return l, root
}

// head70 is what of a long text is worth being shown.
func head70(s string) string {
	if len(s) > 70 {
		return s[:70] + ".."
	}
	return s
}

// label is a node's kind and name.
func label(n api.Node) string {
	s := kindNames[n.Kind]
	if n.Text != "" || len(n.Path) > 0 {
		s += " " + strings.Join(append(slices.Clone(n.Path), n.Text), ".")
	}
	return s
}

// show is a tree in a text, as the chapter's examples have it.
func show(l []api.Node, i int) string {
	if len(l[i].Kids) == 0 {
		return label(l[i])
	}
	var kids []string
	for _, k := range l[i].Kids {
		kids = append(kids, show(l, k))
	}
	return label(l[i]) + "(" + strings.Join(kids, ", ") + ")"
}

// decsOf is what is in the NDecs that a text's tree is.
func decsOf(t testing.TB, s string) string {
	t.Helper()
	l, root := parsed(t, s)
	if l[root].Kind != api.NDecs || root != len(l)-1 {
		t.Fatalf("Parse(%q): root %d of %d nodes is %s", head70(s), root, len(l), label(l[root]))
	}
	return strings.TrimSuffix(strings.TrimPrefix(show(l, root), "NDecs("), ")")
}

// sameDecs fails the test, if a text's tree is not NDecs of this.
func sameDecs(t *testing.T, s, want string) {
	t.Helper()
	if got := decsOf(t, s); got != want {
		t.Errorf("Parse(%q) =\n %s; want\n %s", head70(s), got, want)
	}
}

// sameExp fails the test, if an expression's tree is not this.
func sameExp(t *testing.T, s, want string) {
	t.Helper()
	sameDecs(t, "val v = "+s, "DVal(NBind(PName v, "+want+"))")
}

// samePat fails the test, if a pattern's tree is not this.
func samePat(t *testing.T, s, want string) {
	t.Helper()
	sameDecs(t, "val "+s+" = 0", "DVal(NBind("+want+", NInt 0))")
}

// sameTy fails the test, if a type's tree is not this.
func sameTy(t *testing.T, s, want string) {
	t.Helper()
	sameDecs(t, "type t = "+s, "DType(NTybind t("+want+"))")
}

// sameSig fails the test, if a signature's tree is not this.
func sameSig(t *testing.T, s, want string) {
	t.Helper()
	sameDecs(t, "signature S = "+s, "DSig(NSig S("+want+"))")
}

// sameStr fails the test, if a structure's tree is not this.
func sameStr(t *testing.T, s, want string) {
	t.Helper()
	sameDecs(t, "structure S = "+s, "DStr(NStr S("+want+"))")
}

// faultAt fails the test, if a text has not this fault at this column of its only line.
func faultAt(t *testing.T, s string, column int, want api.Errno) {
	t.Helper()
	sameFault(t, scan(t, s), 1, column, want)
}

// faultBehind fails the test, if a text is not refused by ErrSyntax at the token behind a bar, which is left out.
func faultBehind(t *testing.T, marked string) {
	t.Helper()
	at := strings.Index(marked, "¦")
	faultAt(t, strings.Replace(marked, "¦", "", 1), at+1, api.ErrSyntax)
}

// sameFault fails the test, if Parse does not answer this fault at this place, and nothing else.
func sameFault(t *testing.T, tokens []api.Token, line, column int, want api.Errno) {
	t.Helper()
	l, root, gotLine, gotColumn, e := Parse(tokens)
	if len(l) != 0 || root != 0 || gotLine != line || gotColumn != column || e != want {
		text, _ := lex.Join(tokens[:min(len(tokens), 20)])
		t.Errorf("Parse(%s): %d nodes, %d, %d, %d, %d; want %d, %d, %d", head70(text), len(l), root, gotLine, gotColumn, e, line, column, want)
	}
}

// inOrder is all nodes with their places in the only line, kids' numbers left out.
func inOrder(l []api.Node) string {
	var all []string
	for _, n := range l {
		all = append(all, fmt.Sprintf("%s %d", label(n), n.Column))
	}
	return strings.Join(all, ", ")
}

// sameNodes tells whether both lists are the same, places and all.
func sameNodes(a, b []api.Node) bool {
	return slices.EqualFunc(a, b, func(x, y api.Node) bool {
		return x.Kind == y.Kind && x.Text == y.Text && slices.Equal(x.Path, y.Path) && slices.Equal(x.Kids, y.Kids) && x.Line == y.Line && x.Column == y.Column
	})
}

// moved is tokens at other places, which need not rise.
func moved(l []api.Token, r *rand.Rand) []api.Token {
	out := slices.Clone(l)
	for i := range out {
		out[i].Line, out[i].Column = r.Intn(9)-4, r.Int()
	}
	return out
}
