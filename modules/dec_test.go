package modules

import (
	"reflect"
	"testing"

	"kiln/api"
)

func id(n int, path ...int) api.Access { return api.Access{Id: n, Path: path} }

func sameAt(a, b api.Access) bool {
	return a.Id == b.Id && len(a.Path) == len(b.Path) && (len(a.Path) == 0 || reflect.DeepEqual(a.Path, b.Path))
}

// Each kind of declaration of the core, at the root and in a structure.
func TestCoreDeclarations(t *testing.T) {
	const text = "val a = 1 fun f x = x type t = int datatype d = D of t datatype e = datatype d exception E of t exception G = E"
	d := played(t, text+" structure S = struct "+text+" end open S val h = f a")
	for _, at := range []string{"", "S."} {
		d.is(at+"a", "int", at+"f", "'a -> 'a", at+"D", "int -> d", at+"E", "int -> exn", at+"G", "int -> exn")
		if d.con(at+"d") != d.con(at+"e") || d.con(at+"t") != api.ConInt || len(d.typ(at+"e").Cons) != 1 {
			t.Errorf("the types of %q", at)
		}
	}
	d.is("h", "int")
	if d.con("d") != d.con("S.d") { // S is open
		t.Error("S's d is not the last one")
	}
}

// DLocal: what its second declarations put there, structures too; and what its first ones do not.
func TestLocal(t *testing.T) {
	d := played(t, "local structure A = struct val x = 1 type t = int end val y = 2 in structure B = A val z : A.t = y local open B in val w = x end end")
	if got := d.names(); got != "z, w, structure B" {
		t.Errorf("there are %s", got)
	}
	d.is("z", "int", "w", "int", "B.x", "int")
	d = played(t, "val y = true structure S = struct local val y = 1 in val z = y end val k = y end val v = y")
	d.is("S.z", "int", "S.k", "bool", "v", "bool")
	if vals := d.str("S").Env.Vals; len(vals) != 2 {
		t.Errorf("S has %v", vals)
	}
	tryWrong(t, []wrong{
		{"local val a = 1 in end val b = a", api.ErrUnbound, api.EName, "a"},
		{"local structure A = struct end in end structure B = A", api.ErrUnbound, api.SName, "A"},
		{"local in structure A = struct end end structure B = A", api.OK, 0, ""},
		{"structure S = struct local datatype d = D in val x = D end end val y = S.D", api.ErrUnbound, api.EName, "D"},
	})
}

// Each declaration of a DLocal is one of its own: what nothing is said of is settled at its end.
func TestLocalSettles(t *testing.T) {
	tryWrong(t, []wrong{
		{"local val r = ref nil val _ = r := [1] in val s = r end val t = s := [true]", api.ErrUnify, api.EApp, ""},
		{"local val f = fn {a, ...} => a in val x = f {a = 1} end", api.ErrFields, api.NBind, ""},
	})
	d := played(t, "local val add = fn (x, y) => x + y in val p = add end")
	d.is("p", "int * int -> int")
}

// DStr: the structures in the environment before; then the names, each with a new number, which is noted.
func TestStructureDeclarations(t *testing.T) {
	d := played(t, "structure A = struct val x = 1 end structure B = struct val y = true end and A = struct val x = A.x end and C = A")
	if got := d.names(); got != "structure A, structure B, structure A, structure C" {
		t.Errorf("there are %s", got)
	}
	d.is("A.x", "int", "C.x", "int", "B.y", "bool")
	// x 100, A 101; y 102, x 103, then B 104, A 105, C 106.
	for i, want := range []int{101, 104, 105, 106} {
		n := d.nodes(api.NStr)[i]
		if got := d.note(n); !reflect.DeepEqual(got, api.Note{Is: api.SVar, At: id(want)}) {
			t.Errorf("the note of %v: %v; want the number %d", d.l[n], got, want)
		}
		if got := d.env().Strs[i+1].At; !sameAt(got, id(want)) {
			t.Errorf("the structure %d is at %v; want %d", i, got, want)
		}
	}
	if got := d.note(d.node(api.SName)); !sameAt(got.At, id(101)) {
		t.Errorf("C's A is at %v", got.At)
	}
	if got := d.note(d.node(api.EName, "x")); !sameAt(got.At, id(101, 0)) {
		t.Errorf("A.x is at %v", got.At)
	}
}

// DSig: each signature where the names before stand; of several of a name the last one counts.
func TestSignatureDeclarations(t *testing.T) {
	d := played(t, "signature G = sig val x : int end signature G = sig val y : bool end and H = G signature I = G")
	sigs := d.m.Sigs()
	want := []struct{ name, val string }{{"G", "x"}, {"G", "y"}, {"H", "x"}, {"I", "y"}}
	if len(sigs) != len(want) {
		t.Fatalf("signatures: %v", sigs)
	}
	for i, w := range want {
		if sigs[i].Name != w.name || len(sigs[i].Env.Vals) != 1 || sigs[i].Env.Vals[0].Name != w.val {
			t.Errorf("the signature %d: %v; want %v", i, sigs[i], w)
		}
	}
	if len(d.m.Functors()) != 0 || d.names() != "signature G, signature G, signature H, signature I" {
		t.Errorf("there are %s", d.names())
	}
}

// DFct: numbers and notes of the parameter and of the functor, its parts, and the environment, which is as before.
func TestFunctorDeclarations(t *testing.T) {
	d := played(t, "val a = 1 functor F (X : sig type t val x : t end) = struct val y = X.x datatype d = D of X.t end and G (Y : sig end) = struct val z = a end val b = a")
	// a 100; X 101, y 102, F 103; Y 104, z 105, G 106; b 107.
	fcts := d.m.Functors()
	if len(fcts) != 2 || fcts[0].Name != "F" || fcts[1].Name != "G" || !sameAt(fcts[0].At, id(103)) || !sameAt(fcts[1].At, id(106)) {
		t.Fatalf("functors: %v", fcts)
	}
	for i, want := range []int{101, 104} {
		if got := d.note(d.nodes(api.NSig)[i]); !reflect.DeepEqual(got, api.Note{Is: api.SVar, At: id(want)}) {
			t.Errorf("the note of the parameter %d: %v", i, got)
		}
	}
	for i, want := range []int{103, 106} {
		if got := d.note(d.nodes(api.NFct)[i]); !reflect.DeepEqual(got, api.Note{Is: api.SVar, At: id(want)}) {
			t.Errorf("the note of the functor %d: %v", i, got)
		}
	}
	if got := d.note(d.node(api.EName, "x")); !sameAt(got.At, id(101, 0)) {
		t.Errorf("X.x is at %v", got.At)
	}
	f := fcts[0]
	if f.Param.Name != "X" || len(f.Param.Flex) != 1 || len(f.Param.Env.Vals) != 1 || len(f.Param.Env.Types) != 1 || len(f.Body.Vals) != 2 || len(f.Body.Types) != 1 {
		t.Errorf("F: %v", f)
	}
	body, _ := d.m.Elab().Book().Look(f.Body.Types[0].Scheme.Type)
	if len(f.New) != 2 || f.New[1] != body.Con || f.New[0] != body.Con-1 || f.Param.Flex[0] != f.New[0]-1 { // a datatype without equality is made twice
		t.Errorf("F makes %v; its d is %d, its parameter's t %v", f.New, body.Con, f.Param.Flex)
	}
	if len(fcts[1].New) != 0 || fcts[1].Param.Name != "Y" {
		t.Errorf("G: %v", fcts[1])
	}
	if got := d.names(); got != "a, b, functor F, functor G" {
		t.Errorf("there are %s", got)
	}
}

// New are all type constructors that were made while the body was gone over: of signatures, too.
func TestNewOfFunctors(t *testing.T) {
	d := played(t, "signature S = sig type t type u end functor F (X : S) = struct datatype a = A and b = B structure T :> S = struct type t = int type u = X.t end val z = let datatype c = C in 1 end structure X = X : S end")
	f := d.m.Functors()[0]
	// a, b; S's t and u for T, and those of the opaque T; c; S's t and u for X.
	if len(f.New) != 2+2+2+1+2 {
		t.Errorf("F makes %v", f.New)
	}
	for i, con := range f.New {
		if con != f.New[0]+i {
			t.Errorf("F makes %v", f.New)
		}
	}
	if name, _, _, _ := d.m.Elab().Book().Named(f.New[0]); name != "a" {
		t.Errorf("the first one is %s", name)
	}
	if name, _, _, ok := d.m.Elab().Book().Named(f.New[len(f.New)-1]); name != "u" || !ok {
		t.Errorf("the last one is %s", name)
	}
}

// A functor's own name is not known in its body, nor that of those with it.
func TestFunctorScopes(t *testing.T) {
	tryWrong(t, []wrong{
		{"functor F (X : sig end) = F (X)", api.ErrUnbound, api.SApp, "F"},
		{"functor F (X : sig end) = X and G (X : sig end) = F (X)", api.ErrUnbound, api.SApp, "F"},
		{"functor F (X : sig end) = X functor G (X : sig end) = F (X)", api.OK, 0, ""},
		{"functor F (X : sig val x : int end) = struct end val y = X.x", api.ErrUnbound, api.EName, "x"},
		{"functor F (X : sig end) = struct val x = 1 end val y = x", api.ErrUnbound, api.EName, "x"},
	})
}

// DSig and DFct among others than the root's declarations.
func TestElsewhere(t *testing.T) {
	for _, dec := range []struct {
		text string
		kind api.NodeKind
	}{{"signature G = sig end", api.DSig}, {"functor F (X : sig end) = struct end", api.DFct}} {
		tryWrong(t, []wrong{
			{dec.text, api.OK, 0, ""},
			{"structure S = struct " + dec.text + " end", api.ErrModule, dec.kind, ""},
			{"structure S = struct structure T = struct val x = 1 " + dec.text + " end end", api.ErrModule, dec.kind, ""},
			{"structure S = let " + dec.text + " in struct end end", api.ErrModule, dec.kind, ""},
			{"local " + dec.text + " in end", api.ErrModule, dec.kind, ""},
			{"local in " + dec.text + " end", api.ErrModule, dec.kind, ""},
			{"local val x = 1 in local in val y = 1 " + dec.text + " end end", api.ErrModule, dec.kind, ""},
			{"functor H (X : sig end) = struct " + dec.text + " end", api.ErrModule, dec.kind, ""},
			{"val x = let " + dec.text + " in 1 end", api.ErrModule, dec.kind, ""},
			{"structure S = struct val x = let " + dec.text + " in 1 end end", api.ErrModule, dec.kind, ""},
		})
	}
	tryWrong(t, []wrong{{"val x = let structure S = struct end in 1 end", api.ErrModule, api.DStr, ""}})
}

// DOpen: where what is open is; and one structure out of another one that was opened with it.
func TestOpen(t *testing.T) {
	d := played(t, "structure A = struct val x = 1 structure B = struct val y = 2 exception E end end open A B val z = y structure C = B val w = x")
	// x 100, y 101, E 102, B 103, A 104.
	for name, want := range map[string]api.Access{"x": id(104, 0), "y": id(104, 1, 1), "E": id(104, 1, 0)} {
		if got := d.val(name).At; !sameAt(got, want) {
			t.Errorf("%s is at %v; want %v", name, got, want)
		}
	}
	if got := d.str("B").At; !sameAt(got, id(104, 1)) {
		t.Errorf("B is at %v", got)
	}
	names := d.nodes(api.SName)
	if got := d.note(names[len(names)-1]); !sameAt(got.At, id(104, 1)) {
		t.Errorf("C's B is at %v", got.At)
	}
	tryWrong(t, []wrong{
		{"structure A = struct structure B = struct end end open B A", api.ErrUnbound, api.SName, "B"},
		{"structure A = struct structure B = struct end end structure B = struct structure C = struct end end open A B C", api.ErrUnbound, api.SName, "C"},
		{"open A", api.ErrUnbound, api.SName, "A"},
		{"structure A = struct end open A.B", api.ErrUnbound, api.SName, "B"},
	})
}

// DOpen: all that a structure's Env says, in its order: names that it has more than once, too.
func TestOpenAll(t *testing.T) {
	d := played(t, "structure S = struct val a = 1 val b = 2 val a = \"x\" type t = int type t = bool structure T = struct end structure T = struct val y = 1 end datatype d = C | D of int exception C end")
	first, said := d.env(), d.str("S").Env
	if len(said.Vals) != 6 || len(said.Types) != 3 || len(said.Strs) != 2 {
		t.Fatalf("S says %v", said)
	}
	d.run("open S structure Q = struct open S end")
	got := d.env()
	for name, v := range map[string]api.Env{"behind open S": {Vals: got.Vals[len(first.Vals):], Types: got.Types[len(first.Types):], Strs: got.Strs[len(first.Strs) : len(got.Strs)-1]}, "in Q": d.str("Q").Env} {
		if len(v.Vals) != 6 || len(v.Types) != 3 || len(v.Strs) != 2 {
			t.Fatalf("%s: %v; S says %v", name, v, said)
		}
		for i, e := range v.Vals {
			if want := said.Vals[i]; e.Name != want.Name || e.Is != want.Is || !reflect.DeepEqual(e.Scheme, want.Scheme) {
				t.Errorf("%s: %v; S says %v", name, e, want)
			}
		}
		if !reflect.DeepEqual(v.Types, said.Types) || v.Strs[0].Name != "T" || len(v.Strs[0].Env.Vals) != 0 || v.Strs[1].Name != "T" || len(v.Strs[1].Env.Vals) != 1 {
			t.Errorf("%s: %v, %v; S says %v, %v", name, v.Types, v.Strs, said.Types, said.Strs)
		}
	}
	d.is("a", "string", "Q.a", "string", "C", "exn", "T.y", "int")
}
