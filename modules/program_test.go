package modules

import (
	"math/rand"
	"reflect"
	"slices"
	"strings"
	"testing"

	"kiln/api"
	"kiln/elab"
)

// The chapter's examples.
func TestExamples(t *testing.T) {
	const body = " sig type t val x : t end = struct type t = int val x = 1 end val y = S.x + 1"
	tryWrong(t, []wrong{
		{"structure S :" + body, api.OK, 0, ""},
		{"structure S :>" + body, api.ErrClass, api.EApp, ""},
		{"signature G = sig type t end structure S = struct end structure T = S : G", api.ErrMissing, api.STrans, ""},
		{"structure S = struct val x = true end : sig val x : int end", api.ErrMatch, api.STrans, ""},
	})
	// Of the third example the rules make ErrEquality: X.t has the equality Never, so u has it, and so have those that an application makes. Where X.t has equality it is the document's ErrUnify.
	const apply = " t end) = struct datatype u = A of X.t end structure P = F (struct type t = int end) structure Q = F (struct type t = int end) "
	tryWrong(t, []wrong{
		{"functor F (X : sig eqtype" + apply + "val b = (P.A 1 = Q.A 1)", api.ErrUnify, api.EApp, ""},
		{"functor F (X : sig type" + apply + "val b = (P.A 1 = Q.A 1)", api.ErrEquality, api.EApp, ""},
		{"functor F (X : sig type" + apply + "val b = [P.A 1, Q.A 1]", api.ErrUnify, api.EApp, ""},
		{"functor F (X : sig eqtype" + apply + "val b = (P.A 1 = P.A 2)", api.OK, 0, ""},
	})
	played(t, "structure S : sig val f : int -> int end = struct val f = fn x => x end").is("S.f", "int -> int")
	d := played(t, "structure S : sig type t end where type t = int = struct type t = int end")
	if got := d.text(d.typ("S.t").Scheme.Type); got != "int" {
		t.Errorf("t is %s", got)
	}
	played(t, "structure S :"+body).is("y", "int", "S.x", "int")
}

// P10.1: what is no program.
func TestNoProgram(t *testing.T) {
	d := played(t, "structure S = struct val x = 1 end")
	env, notes := d.env(), d.m.Elab().Notes()
	made := d.node(api.SStruct)
	l, root := bareTree(t, "val x = 1 structure T = struct end")
	derived := []api.Node{{Kind: api.EList}, {Kind: api.PWild}, {Kind: api.NBind, Kids: []int{1, 0}}, {Kind: api.DVal, Kids: []int{2}}, {Kind: api.NDecs, Kids: []int{3}}}
	for name, c := range map[string]struct {
		l     []api.Node
		root  int
		errno api.Errno
	}{
		"no nodes":                       {nil, 0, api.ErrTree},
		"a root below 0":                 {l, -1, api.ErrTree},
		"a root behind all":              {l, len(l), api.ErrTree},
		"no bare tree":                   {derived, 4, api.ErrTree},
		"no bare tree, and no NDecs":     {derived, 3, api.ErrTree},
		"a list, and no NDecs":           {derived, 0, api.ErrTree},
		"a kid that is none, no NDecs":   {[]api.Node{{Kind: api.DVal, Kids: []int{7}}}, 0, api.ErrTree},
		"a declaration as the root":      {l, l[root].Kids[0], api.ErrArg},
		"a structure as the root":        {l, slices.IndexFunc(l, func(n api.Node) bool { return n.Kind == api.SStruct }), api.ErrArg},
		"an expression as the root":      {[]api.Node{{Kind: api.EName, Text: "x"}}, 0, api.ErrArg},
		"a kind that is none, no NDecs":  {[]api.Node{{Kind: 999}}, 0, api.ErrTree},
		"an NDecs, with a list below it": {derived, 4, api.ErrTree},
	} {
		if line, column, e := d.m.Program(byNumber(c.l), c.root); line != 0 || column != 0 || e != c.errno {
			t.Errorf("%s: %d, %d, %v; want %v", name, line, column, e, c.errno)
		}
		if !reflect.DeepEqual(d.env(), env) || !reflect.DeepEqual(d.m.Elab().Notes(), notes) || len(d.m.Parts(made)) != 1 {
			t.Errorf("%s: something has changed", name)
		}
	}
	if at := d.m.Elab().Fresh(); at != 102 {
		t.Errorf("the next number is %d", at)
	}
}

// P10.1: an empty program, and nodes that are not below the root.
func TestSmallPrograms(t *testing.T) {
	d := newDesk(t)
	first := d.env()
	for _, l := range [][]api.Node{
		{{Kind: api.NDecs}},
		{{Kind: 77, Kids: []int{5, -1}}, {Kind: api.NDecs}, {Kind: api.EList}},
	} {
		if line, column, e := d.m.Program(l, len(l)/2); line != 0 || column != 0 || e != api.OK {
			t.Errorf("%v: %d, %d, %v", l, line, column, e)
		}
		if !reflect.DeepEqual(d.env(), first) || len(d.m.Sigs()) != 0 || len(d.m.Functors()) != 0 {
			t.Errorf("%v: something is declared", l)
		}
		if notes := d.m.Elab().Notes(); len(notes) != len(l) {
			t.Errorf("%v: %d notes", l, len(notes))
		}
	}
}

// names are all names of an environment's values, types and structures that the first one has not.
func (d *desk) names() string {
	v, first := d.env(), elab.New().Env()
	var l []string
	for _, e := range v.Vals[len(first.Vals):] {
		l = append(l, e.Name)
	}
	for _, t := range v.Types[len(first.Types):] {
		l = append(l, "type "+t.Name)
	}
	for _, s := range v.Strs[len(first.Strs):] {
		l = append(l, "structure "+s.Name)
	}
	for _, s := range d.m.Sigs() {
		l = append(l, "signature "+s.Name)
	}
	for _, f := range d.m.Functors() {
		l = append(l, "functor "+f.Name)
	}
	return strings.Join(l, ", ")
}

// P10.1: with a fault what the declarations ahead put there stays, of that one nothing.
func TestFirstFault(t *testing.T) {
	for _, c := range []struct {
		text  string
		errno api.Errno
		kind  api.NodeKind
		names string
	}{
		{"val a = 1 val b = 2 val c = nobody val d = 3", api.ErrUnbound, api.EName, "a, b"},
		{"val a = 1 val b = a 2 val c = nobody", api.ErrUnify, api.EApp, "a"},
		{"type t = int datatype d = D exception E structure S = struct val x = 1 val y = x 1 end structure T = struct end", api.ErrUnify, api.EApp, "D, E, type t, type d"},
		{"structure S = struct end structure T = struct val x = 1 structure U = struct end structure V = Nobody end val b = 1", api.ErrUnbound, api.SName, "structure S"},
		{"signature G = sig end signature H = sig end and I = Nobody signature K = sig end", api.ErrUnbound, api.GName, "signature G"},
		{"functor F (X : sig end) = X functor G (X : sig end) = X and H (X : sig end) = Y", api.ErrUnbound, api.SName, "functor F"},
		{"structure A = struct end and B = struct val x = 1 end and C = Nobody", api.ErrUnbound, api.SName, ""},
		{"local val a = 1 in val b = a val c = b b end val d = 1", api.ErrUnify, api.EApp, ""},
		{"val a = 1 local structure S = struct val x = 1 end in open S val y = S.x structure T = S : sig val z : int end end", api.ErrMissing, api.STrans, "a"},
		{"structure S = struct val x = 1 end open S S.T val y = 2", api.ErrUnbound, api.SName, "structure S"},
		{"structure S = struct val x = 1 end open S val y = x x val z = 1", api.ErrUnify, api.EApp, "x, structure S"},
		{"val a = 1 structure S = struct val b = 1 signature G = sig end end", api.ErrModule, api.DSig, "a"},
		{"val a = 1 val b = 1 val c = 1", api.OK, 0, "a, b, c"},
	} {
		d := newDesk(t)
		at, e := d.play(c.text)
		if e != c.errno || e != api.OK && d.l[at].Kind != c.kind {
			t.Errorf("%q: %v at %d; want %v", c.text, e, at, c.errno)
		}
		if got := d.names(); got != c.names {
			t.Errorf("%q: there are %s; want %s", c.text, got, c.names)
		}
	}
}

// P10.1: of the declaration with the fault no note and no part is left; those of the others stay.
func TestNothingOfTheFault(t *testing.T) {
	d := newDesk(t)
	at, e := d.play("structure A = struct val x = 1 end structure B = struct val y = A.x structure C = A structure D = struct val z = 2 end : sig val z : int end val w = y y end structure E = struct val v = 1 end")
	if e != api.ErrUnify {
		t.Fatalf("%v at %d", e, at)
	}
	kids := d.l[d.root].Kids
	for i, n := range d.m.Elab().Notes() {
		known := n.Is != 0 || len(n.Labels) > 0
		if first := i <= kids[0]; known != (first && (d.l[i].Kind == api.PName || d.l[i].Kind == api.NStr)) {
			t.Errorf("the node %d, %v: %v", i, d.l[i], n)
		}
		if parts := len(d.m.Parts(i)); parts > 0 != (i < kids[0] && d.l[i].Kind == api.SStruct) {
			t.Errorf("the node %d, %v: %d parts", i, d.l[i], parts)
		}
	}
	d.run("val u = A.x")
	d.is("u", "int")
}

// P10.1: two faults at once: the first one, in the order in which all is done.
func TestOrderOfFaults(t *testing.T) {
	const bad = "struct val x = 1 2 end"
	tryWrong(t, []wrong{
		{"structure A = Nobody and B = Other", api.ErrUnbound, api.SName, "Nobody"},
		{"structure A = " + bad + " : Nobody", api.ErrUnify, api.EApp, ""},
		{"structure A = struct end : sig val x : nobody end structure B = Nobody", api.ErrUnbound, api.TCon, "nobody"},
		{"structure A = Nobody (" + bad + ")", api.ErrUnbound, api.SApp, "Nobody"},
		{"functor F (X : sig type t end) = struct end structure A = F (" + bad + ")", api.ErrUnify, api.EApp, ""},
		{"functor F (X : Nobody) = Other", api.ErrUnbound, api.GName, "Nobody"},
		{"functor F (X : sig end) = Other and G (X : Nobody) = struct end", api.ErrUnbound, api.SName, "Other"},
		{"structure A = let val x = 1 2 in Nobody end", api.ErrUnify, api.EApp, ""},
		{"structure A = let val x = 1 in Nobody end val y = 1 2", api.ErrUnbound, api.SName, "Nobody"},
		{"local val x = 1 2 in structure A = Nobody end", api.ErrUnify, api.EApp, ""},
		{"signature G = sig val x : nobody type t = other end", api.ErrUnbound, api.TCon, "nobody"},
		{"signature G = sig type t = other val x : nobody end", api.ErrUnbound, api.TCon, "other"},
		{"signature G = Nobody where type t = other", api.ErrUnbound, api.GName, "Nobody"},
		{"signature G = sig end where type t = other", api.ErrUnbound, api.NWhere, "t"},
		{"signature G = sig type t = int end where type t = other", api.ErrWhere, api.NWhere, "t"},
		{"signature G = sig type t end where type 'a t = other", api.ErrUnbound, api.TCon, "other"},
		{"structure A = struct signature G = Nobody end", api.ErrModule, api.DSig, ""},
		{"structure A = struct functor F (X : Nobody) = X end", api.ErrModule, api.DFct, ""},
		{"structure A = struct end : sig structure B : sig end type t val x : int end", api.ErrMissing, api.STrans, ""},
		{"structure A = struct type t = int -> int end : sig eqtype t type u end", api.ErrMatch, api.STrans, ""},
		{"structure A = struct type t = int -> int end : sig type u eqtype t end", api.ErrMissing, api.STrans, ""},
		{"structure A = struct val x = 1 end : sig val x : bool val y : int end", api.ErrMatch, api.STrans, ""},
		{"structure A = struct val x = 1 end : sig val y : int val x : bool end", api.ErrMissing, api.STrans, ""},
		{"structure A = struct type t = bool val x = 1 end : sig val y : int type t = int end", api.ErrMatch, api.STrans, ""},
		{"structure A = struct val x = 1 end : sig structure B : sig end val x : bool end", api.ErrMatch, api.STrans, ""},
		{"structure A = struct val x = 1 end : sig structure B : sig type t end val x : bool end", api.ErrMissing, api.STrans, ""},
		{"structure A = struct type t = int end : sig type t = bool structure B : sig type u end end", api.ErrMissing, api.STrans, ""},
		{"structure A = struct structure B = struct val x = 1 end end : sig structure B : sig val x : bool end structure C : sig end end", api.ErrMatch, api.STrans, ""},
		{"structure A = struct structure B = struct val x = 1 end end : sig structure C : sig end structure B : sig val x : bool end end", api.ErrMissing, api.STrans, ""},
		{"structure A = struct structure B = struct type t = int val x = 1 end end : sig structure B : sig val x : bool type t = bool structure C : sig end val z : int end end", api.ErrMatch, api.STrans, ""},
	})
}

// P10.1: programs go on where others ended.
func TestOneBehindTheOther(t *testing.T) {
	d := played(t, "signature G = sig type t val x : t end functor F (X : G) = struct val y = X.x end val n = 1")
	d.run("structure S :> G where type t = int = struct type t = int val x = n end")
	d.run("structure P = F (S) val m = P.y + S.x + n")
	d.is("m", "int", "P.y", "int")
	if at, e := d.play("val n = true structure S = Nobody"); e != api.ErrUnbound {
		t.Errorf("%v at %d", e, at)
	}
	d.run("structure Q = F (S) val k = n")
	d.is("k", "bool", "Q.y", "int")
	if got := d.names(); got != "n, m, n, k, structure S, structure P, structure Q, signature G, functor F" {
		t.Errorf("there are %s", got)
	}
	d.run("signature G = sig end functor F (X : sig end) = struct val z = true end structure R : G = struct end val z = n")
	d.run("structure R = F (R) val z = R.z")
	d.is("z", "bool")
	sigs, fcts := d.m.Sigs(), d.m.Functors()
	if len(sigs) != 2 || len(fcts) != 2 || len(sigs[0].Flex) != 1 || len(sigs[1].Flex) != 0 || len(fcts[0].Param.Flex) != 1 || len(fcts[1].Param.Flex) != 0 {
		t.Errorf("signatures %v, functors %v", sigs, fcts)
	}
}

// P10.1: a program is gone over in the environment that its elaborator has then.
func TestElaboratorBetweenPrograms(t *testing.T) {
	d := played(t, "structure S = struct val x = 1 end val a = 1")
	v := d.env()
	s := v.Strs[len(v.Strs)-1]
	s.Name, s.At = "T", api.Access{Id: 7, Path: []int{8, 9}}
	v.Strs[len(v.Strs)-1] = s
	v.Vals = v.Vals[:len(v.Vals)-1]
	d.m.Elab().Set(v)
	d.run("val b = T.x structure U = T")
	if at := d.note(d.node(api.EName, "x")).At; !reflect.DeepEqual(at, api.Access{Id: 7, Path: []int{8, 9, 0}}) {
		t.Errorf("T.x is at %v", at)
	}
	if at := d.note(d.node(api.SName)).At; !reflect.DeepEqual(at, s.At) {
		t.Errorf("T is at %v", at)
	}
	if at, e := d.play("val c = S.x"); e != api.ErrUnbound {
		t.Errorf("S: %v at %d", e, at)
	}
	if at, e := d.play("val c = a"); e != api.ErrUnbound {
		t.Errorf("a: %v at %d", e, at)
	}
	if got := d.names(); got != "b, structure T, structure U" {
		t.Errorf("there are %s", got)
	}
}

// Environments that are made by hand: what an Entry's own At says in a structure plays no part, nor do types that are none make a call panic.
func TestStrangeEnvironments(t *testing.T) {
	d := newDesk(t)
	v := d.env()
	odd := api.Access{Id: 55, Path: []int{66}}
	con, prim := v.Vals[0], v.Vals[len(v.Vals)-1]
	con.Name, con.At, prim.Name, prim.At = "C", odd, "P", odd
	inside := api.Env{
		Vals:  []api.Entry{con, prim, {Name: "v", Is: api.SVar, Scheme: con.Scheme, At: odd}, {Name: "n", Is: 99, Scheme: con.Scheme}, {Name: "w", Is: api.SVar, Scheme: api.Scheme{Vars: []int{-1}, Type: 1 << 40}}},
		Types: []api.Typ{{Name: "t", Scheme: api.Scheme{Type: -3}}, {Name: "u", Scheme: api.Scheme{Vars: []int{1 << 40}, Type: con.Scheme.Type}}},
		Strs:  []api.Str{{Name: "T", At: odd, Env: api.Env{Vals: []api.Entry{{Name: "z", Is: api.SExn, Scheme: con.Scheme, At: odd}}}}},
	}
	v.Strs = append(v.Strs, api.Str{Name: "S", At: api.Access{Id: 7}, Env: inside})
	d.m.Elab().Set(v)
	text := d.text(con.Scheme.Type)
	d.run("structure A : sig val C : " + text + " val v : " + text + " val n : " + text + " structure T : sig val z : " + text + " end end = S")
	sameParts(t, "A", d.m.Parts(d.node(api.STrans)), []part{
		{name: "C", is: api.SCon},
		{name: "n", is: 99},
		{name: "v", is: api.SVar, at: id(0, 0)},
		{name: "T", at: id(0, 2), str: true, sub: []part{{name: "z", is: api.SExn, at: id(0, 2, 0)}}},
	})
	if got := d.note(d.node(api.SName)); !sameAt(got.At, id(7)) {
		t.Errorf("S is at %v", got.At)
	}
	for text, want := range map[string]api.Errno{
		"structure B = S : sig val w : int end":                                          api.ErrMatch,
		"structure B = S : sig type t end":                                               api.ErrType,
		"structure B = S : sig type 'a u end":                                            api.ErrType,
		"structure B = S : sig type t = int end":                                         api.ErrMatch,
		"functor F (X : sig type t end) = struct end structure B = F (S)":                api.ErrType,
		"structure B = S : sig type u end":                                               api.ErrMatch,
		"structure B = S : sig exception n end":                                          api.ErrMissing,
		"structure B = S : sig structure T : sig exception z of int end end":             api.ErrMatch,
		"structure B = S structure C = B.T functor F (X : sig end) = S":                  api.OK,
		"structure B = struct open S end structure C = B : sig val C : " + text + " end": api.OK,
	} {
		if at, e := d.play(text); e != want {
			t.Errorf("%q: %v at %d; want %v", text, e, at, want)
		}
	}
}

// Types by hand in which there are variables that nobody knows yet.
func TestLooseTypes(t *testing.T) {
	for text, want := range map[string]api.Errno{
		"sig type l end": api.OK, "sig eqtype l end": api.ErrMatch, "sig eqtype e end": api.OK, "sig eqtype k end": api.ErrMatch,
		"sig type l = S.l end": api.OK, "sig type l = S.e end": api.ErrMatch, "sig type k = S.l list end": api.OK, "sig type k = S.e list end": api.ErrMatch, "sig type 'a p = 'a * S.l end": api.OK, "sig type 'a p = S.l * 'a end": api.ErrMatch,
	} {
		d := newDesk(t)
		b, v := d.m.Elab().Book(), d.env()
		loose, _ := b.Var(0, false, api.Any)
		equal, _ := b.Var(0, true, api.Any)
		arg, _ := b.Var(0, false, api.Any)
		list, _ := b.Put(d.typ("list").Scheme, loose)
		pair, _ := b.Record([]string{"1", "2"}, arg, loose)
		v.Strs = append(v.Strs, api.Str{Name: "S", At: api.Access{Id: 7}, Env: api.Env{Types: []api.Typ{
			{Name: "l", Scheme: api.Scheme{Type: loose}}, {Name: "e", Scheme: api.Scheme{Type: equal}}, {Name: "k", Scheme: api.Scheme{Type: list}}, {Name: "p", Scheme: api.Scheme{Vars: []int{arg}, Type: pair}},
		}}})
		d.m.Elab().Set(v)
		if at, e := d.play("structure A = S : " + text); e != want {
			t.Errorf("%s: %v at %d; want %v", text, e, at, want)
		}
	}
}

// garbage is an environment at random: numbers that may be no types, kinds that are none, names twice.
func (s *scribe) garbage(depth int) api.Env {
	number := func() int {
		if s.slip(4) {
			return s.Intn(400) - 50
		}
		return s.Intn(120)
	}
	numbers := func() []int {
		var l []int
		for s.slip(3) {
			l = append(l, number())
		}
		return l
	}
	scheme := func() api.Scheme { return api.Scheme{Vars: numbers(), Type: number()} }
	entry := func() api.Entry {
		return api.Entry{Name: s.one("x", "f", "r", "A", "B", "E", "D", "v0", "w", "nil", "true"), Is: api.Naming(s.Intn(6)), Scheme: scheme(), At: api.Access{Id: number(), Path: numbers()}, Con: s.Intn(14) - 2, Tag: number(), Count: number(), Arg: s.slip(2)}
	}
	var v api.Env
	for range s.Intn(8) {
		v.Vals = append(v.Vals, entry())
	}
	for range s.Intn(6) {
		t := api.Typ{Name: s.one("t", "u", "p", "d", "n", "int", "list"), Scheme: scheme()}
		for s.slip(2) {
			t.Cons = append(t.Cons, entry())
		}
		v.Types = append(v.Types, t)
	}
	for range s.Intn(3) * depth {
		v.Strs = append(v.Strs, api.Str{Name: s.one("A", "B", "C", "S", "T"), At: api.Access{Id: number(), Path: numbers()}, Env: s.garbage(depth - 1)})
	}
	return v
}

// Rule 1: whatever environment was set, Program ends, and does not panic.
func TestGarbage(t *testing.T) {
	rounds := 600
	if testing.Short() {
		rounds = 200
	}
	seen := map[api.Errno]int{}
	for seed := range rounds {
		s := &scribe{Rand: rand.New(rand.NewSource(int64(seed)))}
		d := newDesk(t)
		s.strs = []known{{"A", s.items(1)}, {"B", s.items(1)}, {"C", s.items(1)}}
		for range 3 {
			v := d.env()
			more := s.garbage(2)
			d.m.Elab().Set(api.Env{Vals: append(v.Vals, more.Vals...), Types: append(v.Types, more.Types...), Strs: append(v.Strs, more.Strs...)})
			l, root, ok := tryTree(s.program())
			if !ok {
				continue
			}
			line, column, e := d.m.Program(l, root)
			seen[e]++
			if e == api.OK && (line != 0 || column != 0) {
				t.Errorf("a place without a fault: %d, %d", line, column)
			}
		}
	}
	if len(seen) < 8 {
		t.Errorf("only the errors %v", seen)
	}
}
