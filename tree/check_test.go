package tree

import (
	"math"
	"math/rand"
	"regexp"
	"slices"
	"strings"
	"testing"

	"kiln/api"
)

// kidsModel is what kids each kind has, as api says beside it: names of kinds, or E, P, T, D, S, G, X for any expression, pattern, type, declaration, structure, signature, specification; an NField of an expression, a pattern, a type is Fe, Fp, Ft; an NCon of no, of one type C0, C1, of one type variable Cv, of two types C2, of two type variables Cvv; a TCon of none T0.
var kidsModel = map[api.NodeKind]string{
	api.NInt: "", api.NReal: "", api.NString: "", api.NChar: "",
	api.EName: "", api.ERecord: "Fe*", api.ESelect: "", api.ETuple: "(E E+)?", api.EList: "E*", api.ESeq: "E E+", api.ELet: "NDecs E+", api.EApp: "E E", api.ETyped: "E T", api.EAnd: "E E", api.EOr: "E E", api.EHandle: "E NRule+", api.ERaise: "E", api.EIf: "E E E", api.EWhile: "E E", api.ECase: "E NRule+", api.EFn: "NRule+", api.NRule: "P E", api.NField: "(E|P|T)",
	api.PWild: "", api.PName: "", api.PApp: "PName P", api.PTuple: "(P P+)?", api.PRecord: "Fp* PDots?", api.PDots: "", api.PList: "P*", api.PTyped: "P T", api.PAs: "P",
	api.TVar: "", api.TCon: "T*", api.TTuple: "T T+", api.TRec: "Ft*", api.TArrow: "T T",
	api.NDecs: "D*", api.DVal: "NBind+", api.DRec: "NBind+", api.NBind: "P E", api.DFun: "NFun+", api.NFun: "NClause+", api.NClause: "NPats E T?", api.NPats: "P+", api.DType: "NTybind+", api.NTybind: "TVar* T", api.DData: "NDatbind+", api.NDatbind: "TVar* (C0|C1|Cv)+", api.NCon: "T*", api.DCopy: "T0", api.DExn: "(C0|C1|Cv|NSame)+", api.NSame: "EName", api.DLocal: "NDecs NDecs", api.DOpen: "SName+", api.DFix: "PName+", api.DStr: "NStr+", api.NStr: "S", api.DSig: "NSig+", api.NSig: "G", api.DFct: "NFct+", api.NFct: "NSig S",
	api.SStruct: "NDecs", api.SName: "", api.SApp: "S", api.STrans: "S G", api.SOpaque: "S G", api.SLet: "NDecs S",
	api.GSig: "X*", api.GName: "", api.GWhere: "G NWhere", api.NWhere: "TVar* T", api.XVal: "(C1|Cv)+", api.XType: "(C0|Cv|Cvv)+", api.XEq: "(C0|Cv|Cvv)+", api.XAlias: "NTybind+", api.XData: "NDatbind+", api.XExn: "(C0|C1|Cv)+", api.XStr: "NSig+",
}

// sortsOf are the sorts of the chapter, by the names of kinds.
var sortsOf = map[string]string{
	"E": "NInt NReal NString NChar EName ERecord ESelect ETuple EList ESeq ELet EApp ETyped EAnd EOr EHandle ERaise EIf EWhile ECase EFn",
	"P": "NInt NString NChar PWild PName PApp PTuple PRecord PList PTyped PAs",
	"T": "TVar T0 TCon TTuple TRec TArrow",
	"D": "DVal DRec DFun DType DData DCopy DExn DLocal DOpen DFix DStr DSig DFct",
	"S": "SStruct SName SApp STrans SOpaque SLet",
	"G": "GSig GName GWhere",
	"X": "XVal XType XEq XAlias XData XExn XStr",
}

// smallest is a right node of each kind, its kids by their codes, in an order in which kids come first.
const smallest = `NInt NReal NString NChar EName ESelect PWild PName PDots TVar T0 SName GName ETuple NDecs
TCon:T0 Fe:EName Fp:PName Ft:TVar C0 C1:T0 Cv:TVar C2:T0,TVar Cvv:TVar,TVar
ERecord EList ESeq:NInt,NInt ELet:NDecs,NInt EApp:NInt,NInt ETyped:NInt,T0 EAnd:NInt,NInt EOr:NInt,NInt NRule:PWild,NInt EHandle:NInt,NRule ERaise:NInt EIf:NInt,NInt,NInt EWhile:NInt,NInt ECase:NInt,NRule EFn:NRule
PApp:PName,PWild PTuple PRecord PList PTyped:PWild,T0 PAs:PWild TTuple:T0,T0 TRec TArrow:T0,T0
NBind:PWild,NInt DVal:NBind DRec:NBind NPats:PWild NClause:NPats,NInt NFun:NClause DFun:NFun NTybind:T0 DType:NTybind NDatbind:C0 DData:NDatbind DCopy:T0 DExn:C0 NSame:EName DLocal:NDecs,NDecs DOpen:SName DFix:PName
NStr:SName DStr:NStr NSig:GName DSig:NSig NFct:NSig,SName DFct:NFct SStruct:NDecs SApp:SName STrans:SName,GName SOpaque:SName,GName SLet:NDecs,SName
GSig NWhere:T0 GWhere:GName,NWhere XVal:C1 XType:C0 XEq:C0 XAlias:NTybind XData:NDatbind XExn:C0 XStr:NSig`

// kit is the smallest nodes in a list, with the number of each code.
type kit struct {
	nodes  []api.Node
	codes  []string
	number map[string]int
}

func newKit(t testing.TB) kit {
	kinds := map[string]api.NodeKind{"T0": api.TCon, "Fe": api.NField, "Fp": api.NField, "Ft": api.NField, "C0": api.NCon, "C1": api.NCon, "Cv": api.NCon, "C2": api.NCon, "Cvv": api.NCon}
	for k, name := range kindNames {
		if k != api.NField && k != api.NCon {
			kinds[name] = k
		}
	}
	k := kit{number: map[string]int{}}
	for _, s := range strings.Fields(smallest) {
		code, list, _ := strings.Cut(s, ":")
		n := api.Node{Kind: kinds[code]}
		if n.Kind == 0 {
			t.Fatalf("no kind %s", code)
		}
		for _, kid := range strings.FieldsFunc(list, func(r rune) bool { return r == ',' }) {
			n.Kids = append(n.Kids, k.number[kid])
		}
		k.number[code] = len(k.nodes)
		k.codes = append(k.codes, code)
		k.nodes = append(k.nodes, n)
	}
	if len(k.codes) != len(kinds) {
		t.Fatalf("%d codes of %d", len(k.codes), len(kinds))
	}
	return k
}

// patternsOf are kidsModel as regular expressions over codes with a `;` behind each.
func patternsOf() map[api.NodeKind]*regexp.Regexp {
	all := map[api.NodeKind]*regexp.Regexp{}
	word := regexp.MustCompile(`[A-Za-z0-9]+`)
	for kind, s := range kidsModel {
		s = word.ReplaceAllStringFunc(s, func(w string) string {
			if sort, ok := sortsOf[w]; ok {
				w = strings.ReplaceAll(sort, " ", ";|")
			}
			return "(?:" + w + ";)"
		})
		all[kind] = regexp.MustCompile("^(?:" + strings.ReplaceAll(s, " ", "") + ")$")
	}
	return all
}

// with is the kit's nodes and one more, of these kids.
func (k kit) with(kind api.NodeKind, kids []string) []api.Node {
	n := api.Node{Kind: kind}
	for _, c := range kids {
		n.Kids = append(n.Kids, k.number[c])
	}
	return append(k.nodes[:len(k.nodes):len(k.nodes)], n)
}

// holdCheck holds Check of a node of these kids against the model.
func holdCheck(t *testing.T, k kit, model map[api.NodeKind]*regexp.Regexp, kind api.NodeKind, kids []string) {
	t.Helper()
	want := api.ErrTree
	if m := model[kind]; m != nil && m.MatchString(strings.Join(append(slices.Clone(kids), ""), ";")) {
		want = api.OK
	}
	l := k.with(kind, kids)
	if e := Check(l, len(l)-1); e != want {
		t.Errorf("Check of %s(%s) = %d; want %d", kindNames[kind], strings.Join(kids, ", "), e, want)
	}
}

// P5.2: each kind, and what is none, with each kid, two kids, and lists of more.
func TestCheckKids(t *testing.T) {
	k, model := newKit(t), patternsOf()
	if len(model) != len(kindNames) || len(model) != 79 {
		t.Fatalf("%d kinds", len(model))
	}
	for i := range k.nodes {
		if e := Check(k.nodes, i); e != api.OK {
			t.Fatalf("Check of the smallest %s: %d", k.codes[i], e)
		}
	}
	r := rand.New(rand.NewSource(2))
	for kind := api.NodeKind(-12); kind < 110; kind++ {
		holdCheck(t, k, model, kind, nil)
		var fine []string // what may stand in it somewhere
		for _, a := range k.codes {
			holdCheck(t, k, model, kind, []string{a})
			if _, ok := model[kind]; ok && strings.Contains(";"+strings.NewReplacer("(?:", ";", ")", ";", "|", ";").Replace(model[kind].String())+";", ";"+a+";") {
				fine = append(fine, a)
			}
		}
		if len(fine) == 0 {
			continue
		}
		for _, a := range k.codes {
			for _, b := range fine {
				holdCheck(t, k, model, kind, []string{a, b})
				holdCheck(t, k, model, kind, []string{b, a})
			}
		}
		for range 1000 {
			var kids []string
			for range 3 + r.Intn(3) {
				kids = append(kids, fine[r.Intn(len(fine))])
			}
			holdCheck(t, k, model, kind, kids)
			kids[r.Intn(len(kids))] = k.codes[r.Intn(len(k.codes))]
			holdCheck(t, k, model, kind, kids)
		}
	}
	for _, kind := range []api.NodeKind{math.MinInt, math.MaxInt, 1000} {
		holdCheck(t, k, model, kind, nil)
		holdCheck(t, k, model, kind, []string{"EName"})
	}
}

// P5.2: what an NField or an NCon has is asked of each node in which it stands, and of it alone, if it is the root.
func TestCheckContext(t *testing.T) {
	field := func(kind api.NodeKind, kid api.NodeKind) []api.Node {
		return []api.Node{{Kind: kid}, {Kind: api.NField, Kids: []int{0}}, {Kind: kind, Kids: []int{1}}}
	}
	for _, c := range []struct {
		kind, kid api.NodeKind
		want      api.Errno
	}{
		{api.ERecord, api.NInt, api.OK}, {api.PRecord, api.NInt, api.OK}, {api.TRec, api.NInt, api.ErrTree},
		{api.ERecord, api.NReal, api.OK}, {api.PRecord, api.NReal, api.ErrTree},
		{api.ERecord, api.PWild, api.ErrTree}, {api.PRecord, api.PWild, api.OK},
		{api.ERecord, api.TVar, api.ErrTree}, {api.TRec, api.TVar, api.OK},
		{api.PRecord, api.PDots, api.ErrTree},
	} {
		l := field(c.kind, c.kid)
		if e := Check(l, 2); e != c.want {
			t.Errorf("Check(%s) = %d; want %d", show(l, 2), e, c.want)
		}
	}
	// One NField in two records.
	l := []api.Node{{Kind: api.NInt}, {Kind: api.NField, Kids: []int{0}}, {Kind: api.ERecord, Kids: []int{1, 1}}, {Kind: api.PRecord, Kids: []int{1}}, {Kind: api.NBind, Kids: []int{3, 2}}}
	if e := Check(l, 4); e != api.OK {
		t.Errorf("Check(%s) = %d", show(l, 4), e)
	}
	l[0].Kind = api.NReal
	if e := Check(l, 4); e != api.ErrTree {
		t.Errorf("Check(%s) = %d", show(l, 4), e)
	}
	// One NCon as a type's and as a value's specification.
	l = []api.Node{{Kind: api.TVar}, {Kind: api.NCon, Kids: []int{0}}, {Kind: api.XType, Kids: []int{1}}, {Kind: api.XVal, Kids: []int{1}}, {Kind: api.GSig, Kids: []int{2, 3}}}
	if e := Check(l, 4); e != api.OK {
		t.Errorf("Check(%s) = %d", show(l, 4), e)
	}
	l[0].Kind = api.TCon
	if e := Check(l, 4); e != api.ErrTree {
		t.Errorf("Check(%s) = %d", show(l, 4), e)
	}
}

// P5.2: roots that are no nodes, and kids that are not below their nodes.
func TestCheckNumbers(t *testing.T) {
	l, root := parsed(t, "val x = f (1, 2)")
	for _, r := range []int{-1, len(l), len(l) + 1, math.MinInt, math.MaxInt} {
		if e := Check(l, r); e != api.ErrArg {
			t.Errorf("Check with root %d: %d", r, e)
		}
		if e := Check(nil, r); e != api.ErrArg {
			t.Errorf("Check of nothing with root %d: %d", r, e)
		}
	}
	if e := Check(nil, 0); e != api.ErrArg {
		t.Errorf("Check of nothing: %d", e)
	}
	if e := Check([]api.Node{{Kind: 99}}, 1); e != api.ErrArg {
		t.Errorf("Check: %d; ErrArg is ahead of ErrTree", e)
	}
	for i := range l {
		for k := range l[i].Kids {
			for _, bad := range []int{i, i + 1, root, root + 1, -1, len(l), math.MinInt, math.MaxInt} {
				m := clone(l)
				m[i].Kids[k] = bad
				if bad == root && i < root || bad >= i || bad < 0 {
					if e := Check(m, root); e != api.ErrTree {
						t.Errorf("Check with kid %d of %d: %d", bad, i, e)
					}
				}
				if i > 0 {
					if e := Check(m, 0); e != api.OK { // the node is not below the first one
						t.Errorf("Check of another root with kid %d of %d: %d", bad, i, e)
					}
				}
			}
		}
	}
	// Of two nodes of the same kind the higher one may be the lower one's kid in no tree.
	l = []api.Node{{Kind: api.ERaise, Kids: []int{1}}, {Kind: api.NInt}, {Kind: api.ERaise, Kids: []int{0}}}
	if e := Check(l, 2); e != api.ErrTree {
		t.Errorf("Check: %d", e)
	}
}

// P5.2: only nodes below the root are asked; Texts, Paths and places play no part.
func TestCheckParts(t *testing.T) {
	l := []api.Node{{Kind: 99}, {Kind: api.NInt, Text: "not a number", Path: []string{"", "+"}, Line: -1, Column: math.MinInt}, {Kind: api.ERaise, Kids: []int{0}}, {Kind: api.ERaise, Kids: []int{1}, Text: "x"}, {Kind: api.EApp}}
	for i, want := range []api.Errno{api.ErrTree, api.OK, api.ErrTree, api.OK, api.ErrTree} {
		if e := Check(l, i); e != want {
			t.Errorf("Check with root %d: %d; want %d", i, e, want)
		}
	}
}

// P5.2, P1: many nodes that stand in many others are asked in little time.
func TestCheckShared(t *testing.T) {
	l := []api.Node{{Kind: api.NInt}}
	for i := range 100000 {
		l = append(l, api.Node{Kind: api.EApp, Kids: []int{i, i}})
	}
	if e := Check(l, len(l)-1); e != api.OK {
		t.Errorf("Check: %d", e)
	}
	l[0].Kind = api.PWild
	if e := Check(l, len(l)-1); e != api.ErrTree {
		t.Errorf("Check: %d", e)
	}
}

// P5.5: what Parse answers passes Check, and so does each node of it.
func TestParsedIsChecked(t *testing.T) {
	met := map[api.NodeKind]int{}
	for _, s := range samples() {
		l, root := parsed(t, s)
		for i := range l {
			met[l[i].Kind]++
			if e := Check(l, i); e != api.OK {
				t.Errorf("Check(%s): %d", show(l, i), e)
			}
		}
		if e := Check(l, root); e != api.OK {
			t.Errorf("Parse(%q): %d", s, e)
		}
	}
	for k, name := range kindNames {
		if met[k] == 0 {
			t.Errorf("no sample has %s", name)
		}
	}
}

// clone is the same nodes in other memory.
func clone(l []api.Node) []api.Node {
	out := slices.Clone(l)
	for i := range out {
		out[i].Path, out[i].Kids = slices.Clone(out[i].Path), slices.Clone(out[i].Kids)
	}
	return out
}
