package elab

import (
	"reflect"
	"slices"
	"strconv"
	"strings"
	"testing"

	"kiln/api"
)

// P8.2: DVal and DRec: types of what they bind.
func TestValTypes(t *testing.T) {
	askTypes(t, map[string]string{
		"val x = 1 and it = \"a\"":                                                    "string",
		"val x = 1 val x = \"a\" and it = x":                                          "int", // in the environment before
		"val rec it = fn x => it x":                                                   "!!'a -> 'b",
		"val rec it : int -> 'a = fn x => it x":                                       "!int -> 'a",
		"val rec it : int -> string = fn x => it x":                                   "int -> string",
		"fun it 0 = true | it n = odd (n - 1) and odd 0 = false | odd n = it (n - 1)": "int -> bool",
		"fun it (x : 'a) = [x]":                                                       "!'a -> 'a list",
		"fun it x = let fun g (y : 'a) = (x, y) in g end":                             "!!'a -> 'b -> 'a * 'b",
		"fun it (x : ''a) = x":                                                        "!''a -> ''a",
		"fun it x : 'a list = x":                                                      "!'a list -> 'a list",
		"val (it, _) = (fn (x : 'a) => x, fn (y : 'a) => y)":                          "!'a -> 'a",
		"val rec f = fn x => x and it = fn y => f y":                                  "!'a -> 'a",
		"val rec f = fn x => x val it = (f 1, f true)":                                "int * bool",
	})
}

// P8.2: what is wrong in DVal and DRec, at its node.
func TestValFaults(t *testing.T) {
	askFaults(t, []faults{
		{"val §1 = true", api.NBind, api.ErrUnify},
		{"val x = 1 and §true = 1", api.NBind, api.ErrUnify},
		{"val §(x, y) = (1, 2, 3)", api.NBind, api.ErrFields},
		{"val rec §f : int = fn x => x", api.NBind, api.ErrUnify},
		{"val rec §f : int : string = fn x => x", api.PTyped, api.ErrUnify},
		{"val rec f : §t = fn x => x", api.TCon, api.ErrUnbound},
		{"val rec f = fn x => §g x", api.EName, api.ErrUnbound},
		{"val rec §f = fn x => f", api.NBind, api.ErrOccurs},
		{"val rec §f : 'a = fn x => x", api.NBind, api.ErrRigid},
		{"val (§x : 'a) = 1", api.NBind, api.ErrRigid},
		{"fun f (x : 'a) = x §+ 1", api.EApp, api.ErrClass},
		{"fun f (x : 'a) = (x §= x)", api.EApp, api.ErrEquality},
		{"val f = fn (x : 'a) => let val g : 'a -> 'a = fn y => y in §g 1 end", api.EApp, api.ErrRigid},
	})
}

// P8.2: of two faults in DVal and DRec the first one is told.
func TestValOrder(t *testing.T) {
	askFaults(t, []faults{
		{"val A.x = §y", api.EName, api.ErrUnbound}, // expressions ahead of patterns
		{"val 1 = true and x = §y", api.EName, api.ErrUnbound},
		{"val §1 = true and A.x = 1", api.NBind, api.ErrUnify}, // each pattern with its type
		{"val (x, §nil y) = true", api.PName, api.ErrPat},
		{"val rec f : §t = fn x => y", api.TCon, api.ErrUnbound},
		{"val rec f = fn x => x and g : §t = fn x => y", api.TCon, api.ErrUnbound}, // all names ahead of all functions
		{"val rec §f : int : string : t = fn x => x", api.PTyped, api.ErrUnify},    // from within
		{"val rec f = fn x => §y and g = fn x => z", api.EName, api.ErrUnbound},
		{"val rec §f : int = fn x => x and g : int = fn x => y", api.NBind, api.ErrUnify},
		{"val §x = #a and y = #b", api.NBind, api.ErrFields},
	})
}

// P8.2: DType.
func TestTypeDeclarations(t *testing.T) {
	d := played(t, "type t = int and u = string list type ('a, ''b) p = ''b * 'a -> 'a type 'a v = 'a ref and 'a w = u * 'a")
	for name, want := range map[string]string{"t": "int", "u": "string list", "p": "!!''a * 'b -> 'b", "v": "!'a ref", "w": "!string list * 'a"} {
		if got := d.shown(d.typ(name).Scheme); got != want || d.typ(name).Cons != nil {
			t.Errorf("%s: %s; want %s", name, got, want)
		}
	}
	if got := d.typ("p").Scheme.Vars; d.text(got[0]) != "'a" || d.text(got[1]) != "''a" {
		t.Errorf("p's variables are not in the order of its TVars: %s, %s", d.text(got[0]), d.text(got[1]))
	}
	if look, _ := d.e.Book().Look(d.typ("v").Scheme.Vars[0]); look.Level != 0 {
		t.Errorf("a variable of the level %d", look.Level)
	}
	d.run("val f = fn (x : (int, string) p) => x val g = fn (x : 'a v) => x")
	d.is("f", "(string * int -> int) -> string * int -> int")
	d.is("g", "!'a ref -> 'a ref")
	d.run("type t = t list and u = t") // both of the environment before
	d.run("val h = fn (x : t, y : u) => 1")
	d.is("h", "int list * int -> int")
	askFaults(t, []faults{
		{"type t = §u and u = int", api.TCon, api.ErrUnbound},
		{"type t = §t", api.TCon, api.ErrUnbound},
		{"type t = int type u = §int t", api.TCon, api.ErrArity},
		{"type t = §Prim.t", api.TCon, api.ErrUnbound},
		{"type t = int and u = (§int, real) list and v = w", api.TCon, api.ErrArity},
		{"type t = (§w, int) u", api.TCon, api.ErrUnbound}, // the name ahead of the arguments
		{"type t = (int, §w) list", api.TCon, api.ErrUnbound},
	})
}

// P8.2: DData: what is in the environment.
func TestData(t *testing.T) {
	d := played(t, "datatype 'a t = B of 'a * 'a t | C | A of 'a u and 'a u = Z of int | Y of 'a t * int u val x = C val y = B (1, A (Z 2))")
	d.askRows([]string{d.typRow(d.typ("t")), d.typRow(d.typ("u"))}, []string{
		"t = !'a t | B con !'a * 'a t -> 'a t of t 1/3 arg | C con !'a t of t 2/3 | A con !'a u -> 'a t of t 0/3 arg",
		"u = !'a u | Z con !int -> 'a u of u 1/2 arg | Y con !'a t * int u -> 'a u of u 0/2 arg",
	})
	v := d.e.Env()
	n := len(v.Vals)
	d.askRows(d.envRows(api.Env{Vals: v.Vals[n-7:], Types: v.Types[len(v.Types)-3:]}), []string{
		"unit = unit",
		d.typRow(d.typ("t")),
		d.typRow(d.typ("u")),
		"B con !'a * 'a t -> 'a t of t 1/3 arg",
		"C con !'a t of t 2/3",
		"A con !'a u -> 'a t of t 0/3 arg",
		"Z con !int -> 'a u of u 1/2 arg",
		"Y con !'a t * int u -> 'a u of u 0/2 arg",
		"x var !'a t @100",
		"y var int t @101",
	})
	if b, z := d.val("B"), d.val("Z"); b.Con == z.Con || b.Con != d.val("A").Con {
		t.Errorf("type constructors %d, %d", b.Con, z.Con)
	}
	d.run("datatype t = T of t | U datatype ''b e = E of ''b val z = T U")
	d.is("T", "t -> t")
	d.is("E", "!''a -> ''a e")
	d.is("C", "!'a t")
	if d.val("C").Con == d.val("T").Con {
		t.Error("a datatype of the same name is the same one")
	}
	askFaults(t, []faults{
		{"datatype t = A of §u", api.TCon, api.ErrUnbound},
		{"datatype 'a t = A of §t", api.TCon, api.ErrArity},
		{"datatype t = A of §u and v = B of w", api.TCon, api.ErrUnbound},
		{"datatype t = A of int datatype u = B of int | C of §int t", api.TCon, api.ErrArity},
		{"datatype t = A val x = A val y = let datatype t = A in A §= x end", api.EApp, api.ErrUnify},
	})
}

// P8.2: DData: too many arguments for a type constructor; types that are too large.
func TestDataLimits(t *testing.T) {
	for vars, want := range map[int]api.Errno{api.MaxArity: api.OK, api.MaxArity + 1: api.ErrArg} {
		d := newDesk(t)
		kids := d.handTyvars(vars)
		bind := d.hand(api.NDatbind, "t", append(kids, d.hand(api.NCon, "A"))...)
		d.handTop(d.hand(api.DData, "", bind))
		if at, e := d.dec(d.root - 1); e != want || e != api.OK && at != bind {
			t.Errorf("%d variables: %v at %d; want %v", vars, e, at, want)
		}
		alias := d.hand(api.NTybind, "t", append(d.handTyvars(vars), d.hand(api.TCon, "int"))...)
		d.handTop(d.hand(api.DType, "", alias))
		if at, e := d.dec(d.root - 1); e != api.OK {
			t.Errorf("a type of %d variables: %v at %d", vars, e, at)
		}
	}
	for _, size := range []int{api.MaxSize - 2, api.MaxSize - 1} { // an arrow and a constructor are there, too
		d := newDesk(t)
		con := d.hand(api.NCon, "A", d.handLarge(size))
		d.handTop(d.hand(api.DData, "", d.hand(api.NDatbind, "t", con)))
		exn := d.hand(api.NCon, "E", d.handLarge(size))
		d.handTop(d.root-1, d.hand(api.DExn, "", exn))
		for i, at := range map[int]int{d.l[d.root].Kids[0]: con, d.l[d.root].Kids[1]: exn} {
			want, errno := -1, api.OK
			if size == api.MaxSize-1 {
				want, errno = at, api.ErrLong
			}
			if got, e := d.dec(i); e != errno || got != want {
				t.Errorf("of a type of the size %d: %v at %d; want %v at %d", size, e, got, errno, want)
			}
		}
	}
}

// handTyvars are TVars of names that are all others.
func (d *desk) handTyvars(n int) []int {
	var l []int
	for i := range n {
		l = append(l, d.hand(api.TVar, "'a"+strconv.Itoa(i)))
	}
	return l
}

// handLarge is a type of a size.
func (d *desk) handLarge(size int) int {
	t := d.hand(api.TCon, "int")
	for range size - 1 {
		t = d.hand(api.TCon, "list", t)
	}
	return t
}

// P8.2: DData: the equality of datatypes, also of those that hang on one another.
func TestDataEquality(t *testing.T) {
	for text, never := range map[string]string{
		"datatype t = A | B of int":                                                     "",
		"datatype t = A of t":                                                           "",
		"datatype t = A of int -> int":                                                  "t",
		"datatype t = A of t -> t":                                                      "t",
		"datatype t = A of real":                                                        "t",
		"datatype t = A of exn":                                                         "t",
		"datatype t = A | B of int * {a : real list}":                                   "t",
		"datatype t = A of real ref":                                                    "",
		"datatype t = A of (int -> int) array":                                          "",
		"datatype 'a t = A of 'a | B of 'a t":                                           "",
		"datatype 'a t = A of real t":                                                   "t", // its own argument does not admit it
		"datatype 'a t = A of 'a and u = B of real t":                                   "u",
		"datatype 'a t = A of 'a and u = B of real":                                     "u",
		"datatype t = A of u and u = B of v and v = C of real":                          "t u v",
		"datatype t = A of u and u = B of t and v = C of real":                          "v",
		"datatype t = A of u and u = B of t * v and v = C of real and w = D of w":       "t u v",
		"datatype t = A of u ref and u = B of real":                                     "u",
		"datatype t = A of u list and u = B of real":                                    "t u",
		"datatype t = A of u -> u and u = B of int":                                     "t",
		"datatype t = A of u and u = B of t -> t | C of t":                              "t u",
		"type r = real datatype t = A of r":                                             "t",
		"type 'a r = int datatype t = A of real r":                                      "",
		"datatype 'a t = A of ('a -> 'a) t":                                             "t",
		"datatype 'a t = A of 'a u and 'a u = B of 'a -> 'a and 'a v = C of 'a t v | D": "t u v",
		"datatype ''a t = A of ''a":                                                     "",
	} {
		d := played(t, text)
		for _, typ := range d.e.Env().Types[10:] {
			is, _ := d.e.Book().Look(typ.Scheme.Type)
			if len(typ.Cons) == 0 {
				continue
			}
			_, _, got, _ := d.e.Book().Named(is.Con)
			want := api.If
			if strings.Contains(" "+never+" ", " "+typ.Name+" ") {
				want = api.Never
			}
			if got != want {
				t.Errorf("%q: %s: equality %d; want %d", text, typ.Name, got, want)
			}
			for _, c := range typ.Cons {
				if c.Con != is.Con || d.val(c.Name).Con != is.Con {
					t.Errorf("%q: %s is of another type constructor", text, c.Name)
				}
			}
		}
	}
	askTypes(t, map[string]string{
		"datatype t = A of t | B val it = A B = B":                                          "bool",
		"datatype t = A of real ref val it = fn x => A x = A x":                             "real ref -> bool",
		"datatype t = A of u and u = B of real ref | C of t val it = fn x => C (A x) = x":   "u -> bool",
		"datatype t = A of u and u = B of real val it = fn x => (A (B x), B 1.0)":           "real -> t * u",
		"datatype t = A of u and u = B of real and v = C of v | D val it = fn x => x = C D": "v -> bool",
	})
	askFaults(t, []faults{
		{"datatype u = C of u -> u val e = C §= C", api.EApp, api.ErrEquality},
		{"datatype t = A of u and u = B of real val f = fn x => A x §= A x", api.EApp, api.ErrEquality},
		{"datatype 'a t = A of 'a val x = A (fn x => x) §= A (fn x => x)", api.EApp, api.ErrEquality},
	})
}

// P8.2: DCopy.
func TestCopy(t *testing.T) {
	d := played(t, "datatype 'a t = A | B of 'a datatype u = datatype t val x = B 1 : int u")
	d.is("x", "int t")
	d.askRows([]string{d.typRow(d.typ("u"))}, []string{strings.Replace(d.typRow(d.typ("t")), "t =", "u =", 1)})
	d.run("datatype s = A of int datatype w = datatype t val y = A datatype b = datatype bool type i = int datatype j = datatype i")
	d.is("y", "!'a t")
	d.is("A", "!'a t")
	d.is("B", "!'a -> 'a t")
	if got := d.typ("b"); len(got.Cons) != 2 || d.text(got.Scheme.Type) != "bool" {
		t.Errorf("b: %v", got)
	}
	if got := d.typ("j"); len(got.Cons) != 0 || d.text(got.Scheme.Type) != "int" {
		t.Errorf("j: %v", got)
	}
	askFaults(t, []faults{
		{"datatype u = datatype §t", api.TCon, api.ErrUnbound},
		{"datatype u = datatype §Prim.t", api.TCon, api.ErrUnbound},
	})
}

// P8.2: DExn.
func TestExn(t *testing.T) {
	d := played(t, "exception A of int and B and C = Div exception D = A and E of real * int exception A")
	d.askRows(d.envRows(api.Env{Vals: d.e.Env().Vals[len(d.e.Env().Vals)-6:]}), []string{
		"A exn int -> exn arg @100",
		"B exn exn @101",
		"C exn exn @3",
		"D exn int -> exn arg @100",
		"E exn real * int -> exn arg @102",
		"A exn exn @103",
	})
	notes := d.e.Notes()
	for name, want := range map[string]api.Note{
		"B": {Is: api.SExn, At: api.Access{Id: 101}},
		"E": {Is: api.SExn, At: api.Access{Id: 102}, Arg: true},
	} {
		if got := notes[d.node(api.NCon, name)]; !reflect.DeepEqual(got, want) {
			t.Errorf("%s: %v; want %v", name, got, want)
		}
	}
	for name, want := range map[string]api.Note{
		"C": {Is: api.SExn, At: api.Access{Id: 3}},
		"D": {Is: api.SExn, At: api.Access{Id: 100}, Arg: true},
	} {
		if got := notes[d.node(api.NSame, name)]; !reflect.DeepEqual(got, want) {
			t.Errorf("%s: %v; want %v", name, got, want)
		}
	}
	askTypes(t, map[string]string{
		"val it = fn (x : 'a) => let exception E of 'a in raise E x end": "!!'a -> 'b",
		"exception E and F = Div val it = (E, F)":                        "exn * exn",
	})
	askFaults(t, []faults{
		{"exception E of §t", api.TCon, api.ErrUnbound},
		{"exception E of §'a", api.TVar, api.ErrUnbound},
		{"exception E = §F", api.EName, api.ErrUnbound},
		{"exception E = §nil", api.EName, api.ErrUnbound},
		{"val x = Div exception E = §x", api.EName, api.ErrUnbound},
		{"exception E = §Prim.size", api.EName, api.ErrUnbound},
		{"exception E of int and F = §E", api.EName, api.ErrUnbound}, // of the environment before
		{"exception E of §t and F = G", api.TCon, api.ErrUnbound},
		{"exception E = §G and F of t", api.EName, api.ErrUnbound},
		{"val f = fn (x : 'a) => let exception E of 'a in raise §E 1 end", api.EApp, api.ErrRigid},
	})
}

// P8.2: DLocal: what its first part declares is gone behind it; what stands in the environment is in its order.
func TestLocal(t *testing.T) {
	d := played(t, "val x = 1 local val x = true val y = x datatype t = A type u = int in val z = (x, y) type v = u val B = A end val w = x")
	d.is("z", "bool * bool")
	d.is("w", "int")
	d.is("B", "t")
	if d.shown(d.typ("v").Scheme) != "int" {
		t.Error("v")
	}
	v := d.e.Env()
	for _, gone := range []string{"y", "A"} {
		if _, ok := Find(v, nil, gone); ok {
			t.Errorf("%s is there", gone)
		}
	}
	for _, gone := range []string{"t", "u"} {
		if _, ok := FindType(v, nil, gone); ok {
			t.Errorf("%s is there", gone)
		}
	}
	d.askRows(d.envRows(api.Env{Vals: v.Vals[len(v.Vals)-4:]}), []string{"x var int @100", "z var bool * bool @103", "B var t @104", "w var int @105"})
	d.run("local local in val a = 1 end val b = a in local in end local val c = b in val a = c and d = true end end val e = a")
	d.is("e", "int")
	d.is("d", "bool")
	if _, ok := Find(d.e.Env(), nil, "c"); ok {
		t.Error("c is there")
	}
	askFaults(t, []faults{
		{"local val a = 1 in val b = §c end", api.EName, api.ErrUnbound},
		{"local val a = §c in val b = d end", api.EName, api.ErrUnbound},
		{"local val a = 1 in end val b = §a", api.EName, api.ErrUnbound},
		{"local §structure S = struct end in end", api.DStr, api.ErrModule},
		{"local in §functor F (X : sig end) = struct end end", api.DFct, api.ErrModule},
	})
}

// P8.2: declarations of modules are none of this layer's.
func TestModuleDeclarations(t *testing.T) {
	askFaults(t, []faults{
		{"§structure S = struct val x = y end", api.DStr, api.ErrModule},
		{"§signature S = sig type t = u end", api.DSig, api.ErrModule},
		{"§functor F (X : S) = struct end", api.DFct, api.ErrModule},
	})
}

// P8.2: which nodes are declarations.
func TestDecArguments(t *testing.T) {
	d := newDesk(t)
	if at, e := d.dec(0); e != api.ErrArg || at != -1 {
		t.Errorf("ahead of a tree: %v at %d", e, at)
	}
	d.begin("signature S = sig type 'a t = 'a list datatype u = A of v and v = B type w exception E val x : int eqtype z structure T : sig end end local val x = 1 in val y = let val z = 2 in x end end")
	decs := []api.NodeKind{api.DVal, api.DRec, api.DType, api.DData, api.DCopy, api.DExn, api.DLocal, api.DOpen, api.DStr, api.DSig, api.DFct, api.XAlias, api.XData}
	for i, n := range d.l {
		at, e := d.dec(i)
		if want := !slices.Contains(decs, n.Kind); (e == api.ErrArg) != want || want && at != -1 {
			t.Errorf("a node of kind %d: %v at %d", n.Kind, e, at)
		}
	}
	for _, i := range []int{-1, len(d.l), 1 << 40, -1 << 40} {
		if at, e := d.dec(i); e != api.ErrArg || at != -1 {
			t.Errorf("Dec(%d): %v at %d", i, e, at)
		}
	}
	if got := d.shown(d.typ("t").Scheme); got != "!'a list" {
		t.Errorf("an XAlias: %s", got)
	}
	d.askRows([]string{d.typRow(d.typ("u")), d.typRow(d.typ("v"))}, []string{"u = u | A con v -> u of u 0/1 arg", "v = v | B con v of v 0/1"})
	d.is("z", "int") // a declaration within another one
}
