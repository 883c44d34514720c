package derive

import (
	"fmt"
	"slices"
	"strings"
	"testing"

	"kiln/api"
	"kiln/lex"
	"kiln/tree"
)

// kindNames are the kinds of nodes, by their names.
var kindNames = map[api.NodeKind]string{
	api.NInt: "NInt", api.NReal: "NReal", api.NString: "NString", api.NChar: "NChar",
	api.EName: "EName", api.ERecord: "ERecord", api.ESelect: "ESelect", api.ETuple: "ETuple", api.EList: "EList", api.ESeq: "ESeq", api.ELet: "ELet", api.EApp: "EApp", api.ETyped: "ETyped", api.EAnd: "EAnd", api.EOr: "EOr", api.EHandle: "EHandle", api.ERaise: "ERaise", api.EIf: "EIf", api.EWhile: "EWhile", api.ECase: "ECase", api.EFn: "EFn", api.NRule: "NRule", api.NField: "NField",
	api.PWild: "PWild", api.PName: "PName", api.PApp: "PApp", api.PTuple: "PTuple", api.PRecord: "PRecord", api.PDots: "PDots", api.PList: "PList", api.PTyped: "PTyped", api.PAs: "PAs",
	api.TVar: "TVar", api.TCon: "TCon", api.TTuple: "TTuple", api.TRec: "TRec", api.TArrow: "TArrow",
	api.NDecs: "NDecs", api.DVal: "DVal", api.DRec: "DRec", api.NBind: "NBind", api.DFun: "DFun", api.NFun: "NFun", api.NClause: "NClause", api.NPats: "NPats", api.DType: "DType", api.NTybind: "NTybind", api.DData: "DData", api.NDatbind: "NDatbind", api.NCon: "NCon", api.DCopy: "DCopy", api.DExn: "DExn", api.NSame: "NSame", api.DLocal: "DLocal", api.DOpen: "DOpen", api.DFix: "DFix", api.DStr: "DStr", api.NStr: "NStr", api.DSig: "DSig", api.NSig: "NSig", api.DFct: "DFct", api.NFct: "NFct",
	api.SStruct: "SStruct", api.SName: "SName", api.SApp: "SApp", api.STrans: "STrans", api.SOpaque: "SOpaque", api.SLet: "SLet",
	api.GSig: "GSig", api.GName: "GName", api.GWhere: "GWhere", api.NWhere: "NWhere", api.XVal: "XVal", api.XType: "XType", api.XEq: "XEq", api.XAlias: "XAlias", api.XData: "XData", api.XExn: "XExn", api.XStr: "XStr",
}

// derivedKinds are those that no bare tree has.
var derivedKinds = []api.NodeKind{api.ESelect, api.ETuple, api.EList, api.ESeq, api.EAnd, api.EOr, api.EIf, api.EWhile, api.ECase, api.PTuple, api.PList, api.TTuple, api.DFun, api.NFun, api.NClause, api.NPats, api.DFix}

// parsed is a text's tree, which it must have.
func parsed(t testing.TB, s string) ([]api.Node, int) {
	t.Helper()
	tokens, _, _, e := lex.Scan(s)
	if e != api.OK {
		t.Fatalf("Scan(%.99q): %d", s, e)
	}
	l, root, _, _, e := tree.Parse(tokens)
	if e != api.OK {
		t.Fatalf("Parse(%.99q): %d", s, e)
	}
	return l, root
}

// label is a node's kind and name.
func label(n api.Node) string {
	s := kindNames[n.Kind]
	if n.Text != "" || len(n.Path) > 0 {
		s += " " + strings.Join(append(slices.Clone(n.Path), n.Text), ".")
	}
	return s
}

// written is a tree in a text, as the chapter's examples have it, with what is told of each node.
func written(l []api.Node, i int, tell func(n api.Node) string) string {
	s := tell(l[i])
	if len(l[i].Kids) == 0 {
		return s
	}
	var kids []string
	for _, k := range l[i].Kids {
		kids = append(kids, written(l, k, tell))
	}
	return s + "(" + strings.Join(kids, ", ") + ")"
}

// show is a tree in a text.
func show(l []api.Node, i int) string { return written(l, i, label) }

// showPlaces is a tree in a text, with columns.
func showPlaces(l []api.Node, i int) string {
	return written(l, i, func(n api.Node) string { return fmt.Sprintf("%s@%d", label(n), n.Column) })
}

// derived is a tree's bare form, which it must have.
func derived(t testing.TB, l []api.Node, root int) ([]api.Node, int) {
	t.Helper()
	m, top, line, column, e := Derive(l, root)
	if line != 0 || column != 0 || e != api.OK {
		t.Fatalf("Derive: %d, %d, %d", line, column, e)
	}
	if tree.Check(m, top) != api.OK || len(tree.Below(m, top)) != len(m) {
		t.Fatalf("Derive: %d of %d nodes below the root %d", len(tree.Below(m, top)), len(m), top)
	}
	if !Bare(m, top) {
		t.Fatalf("Derive: not bare")
	}
	return m, top
}

// sameForm fails the test, if the bare form of a text is not NDecs of this.
func sameForm(t *testing.T, s, want string) {
	t.Helper()
	l, root := parsed(t, s)
	m, top := derived(t, l, root)
	if want = "NDecs(" + want + ")"; want == "NDecs()" {
		want = "NDecs"
	}
	if got := show(m, top); got != want {
		t.Errorf("Derive(%q) =\n %s; want\n %s", s, got, want)
	}
}

// sameExp fails the test, if the bare form of an expression is not this.
func sameExp(t *testing.T, s, want string) {
	t.Helper()
	sameForm(t, "val v = "+s, "DVal(NBind(PName v, "+want+"))")
}

// samePat fails the test, if the bare form of a pattern is not this.
func samePat(t *testing.T, s, want string) {
	t.Helper()
	sameForm(t, "val "+s+" = 0", "DVal(NBind("+want+", NInt 0))")
}

// faultAt fails the test, if a text is not refused so, at the place of a bar, which is left out.
func faultAt(t *testing.T, marked string, want api.Errno) {
	t.Helper()
	const bar = "¦"
	ahead, behind, ok := strings.Cut(marked, bar)
	if !ok {
		t.Fatalf("%q: no bar", marked)
	}
	line := 1 + strings.Count(ahead, "\n")
	column := len(ahead) - strings.LastIndex(ahead, "\n")
	l, root := parsed(t, ahead+behind)
	sameFault(t, l, root, line, column, want)
}

// sameFault fails the test, if a tree is not refused so.
func sameFault(t *testing.T, l []api.Node, root, line, column int, want api.Errno) {
	t.Helper()
	m, top, gotLine, gotColumn, e := Derive(l, root)
	if len(m) != 0 || top != 0 || gotLine != line || gotColumn != column || e != want {
		t.Errorf("Derive of %d nodes: %d nodes, %d, %d, %d, %d; want %d, %d, %d", len(l), len(m), top, gotLine, gotColumn, e, line, column, want)
	}
}

// clone is the same nodes in other memory.
func clone(l []api.Node) []api.Node {
	out := slices.Clone(l)
	for i := range out {
		out[i].Path, out[i].Kids = slices.Clone(out[i].Path), slices.Clone(out[i].Kids)
	}
	return out
}

// sameNodes tells whether both lists are the same, places and all.
func sameNodes(a, b []api.Node) bool {
	return slices.EqualFunc(a, b, func(x, y api.Node) bool {
		return x.Kind == y.Kind && x.Text == y.Text && slices.Equal(x.Path, y.Path) && slices.Equal(x.Kids, y.Kids) && x.Line == y.Line && x.Column == y.Column
	})
}
