package elab

import (
	"reflect"
	"slices"
	"strings"
	"testing"

	"kiln/api"
)

// sample is an environment with structures within structures, with names that stand several times.
func sample(d *desk) api.Env {
	ints := d.typ("int").Scheme
	variable := func(name string, id int) api.Entry {
		return api.Entry{Name: name, Is: api.SVar, Scheme: ints, At: api.Access{Id: id, Path: []int{9, 9}}}
	}
	con := func(name string) api.Entry {
		return api.Entry{Name: name, Is: api.SCon, Scheme: ints, Con: 3, Tag: 4, Count: 5, At: api.Access{Id: 6, Path: []int{7}}}
	}
	exn := api.Entry{Name: "e", Is: api.SExn, Scheme: d.typ("exn").Scheme, At: api.Access{Id: 77}}
	prim := api.Entry{Name: "p", Is: api.SPrim, Scheme: ints}
	deep := api.Str{Name: "D", At: api.Access{Id: 44}, Env: api.Env{
		Vals:  []api.Entry{variable("z", 1), variable("a", 2), variable("z", 3)},
		Types: []api.Typ{{Name: "t", Scheme: d.typ("string").Scheme}},
	}}
	inner := api.Str{Name: "I", At: api.Access{Id: 55, Path: []int{5}}, Env: api.Env{
		Vals: []api.Entry{variable("x", 4)},
		Strs: []api.Str{deep, {Name: "C"}, deep},
	}}
	outer := api.Str{Name: "S", At: api.Access{Id: 120, Path: []int{8}}, Env: api.Env{
		Vals: []api.Entry{
			variable("b", 1), con("b"), // the last one is no field
			con("c"), variable("c", 2), // the last one is
			prim, exn, variable("B", 3), variable("aa", 4), variable("a", 5), con("k"),
		},
		Types: []api.Typ{{Name: "t", Scheme: ints}, {Name: "u", Scheme: ints, Cons: []api.Entry{con("k")}}, {Name: "t", Scheme: d.typ("list").Scheme}},
		Strs:  []api.Str{inner, {Name: "a"}, {Name: "J"}},
	}}
	return api.Env{
		Vals:  []api.Entry{variable("v", 20), con("w"), exn},
		Types: []api.Typ{{Name: "t", Scheme: ints}},
		Strs:  []api.Str{{Name: "S"}, outer, {Name: "T", At: api.Access{Id: 130}}},
	}
}

// P8.4: Slots.
func TestSlots(t *testing.T) {
	d := newDesk(t)
	for name, want := range map[string][2]string{"": {"e v", "S T"}, "S": {"B a aa c e", "I J a"}, "S.I": {"x", "C D"}, "S.I.D": {"a z", ""}, "T": {"", ""}} {
		v := sample(d)
		if name != "" {
			s, ok := FindStr(v, strings.Split(name, "."))
			if !ok {
				t.Fatalf("%s: unknown", name)
			}
			v = s.Env
		}
		values, structures := Slots(v)
		if got := [2]string{strings.Join(values, " "), strings.Join(structures, " ")}; got != want {
			t.Errorf("%s: %v; want %v", name, got, want)
		}
	}
	if values, structures := Slots(api.Env{}); len(values)+len(structures) > 0 {
		t.Errorf("of nothing: %v, %v", values, structures)
	}
	strange := api.Env{Vals: []api.Entry{{Name: "a", Is: api.SVar}, {Name: "", Is: api.SVar}, {Name: "a", Is: 0}, {Name: "b", Is: 5}, {Name: "\xff", Is: api.SExn}, {Name: "c", Is: -1}}, Strs: []api.Str{{Name: ""}}}
	if values, structures := Slots(strange); !slices.Equal(values, []string{"", "\xff"}) || !slices.Equal(structures, []string{""}) {
		t.Errorf("of strange names: %q, %q", values, structures)
	}
}

// P8.4: Find: what a long name stands for, and where it is.
func TestFind(t *testing.T) {
	d := newDesk(t)
	v := sample(d)
	for name, want := range map[string]api.Access{
		"v":       {Id: 20, Path: []int{9, 9}}, // without a path as it is
		"w":       {Id: 6, Path: []int{7}},
		"e":       {Id: 77},
		"S.B":     {Id: 120, Path: []int{8, 0}},
		"S.a":     {Id: 120, Path: []int{8, 1}},
		"S.aa":    {Id: 120, Path: []int{8, 2}},
		"S.c":     {Id: 120, Path: []int{8, 3}},
		"S.e":     {Id: 120, Path: []int{8, 4}},
		"S.b":     {}, // no field
		"S.p":     {},
		"S.k":     {},
		"S.I.x":   {Id: 120, Path: []int{8, 5, 0}},
		"S.I.D.a": {Id: 120, Path: []int{8, 5, 2, 0}},
		"S.I.D.z": {Id: 120, Path: []int{8, 5, 2, 1}},
	} {
		path, last := long(name)
		got, ok := Find(v, path, last)
		if !ok || got.Name != last || !reflect.DeepEqual(got.At, want) {
			t.Errorf("%s: %v, %v; want it at %v", name, got, ok, want)
		}
	}
	if got, _ := Find(v, []string{"S"}, "b"); got.Is != api.SCon || got.Con != 3 || got.Tag != 4 || got.Count != 5 {
		t.Errorf("S.b: %v: not the last one", got)
	}
	if got, _ := Find(v, []string{"S"}, "c"); got.Is != api.SVar {
		t.Errorf("S.c: %v: not the last one", got)
	}
	for _, name := range []string{"x", "S", "S.x", "S.I", "S.I.a", "S.D.a", "D.a", "U.a", "T.a", "S.I.D.D.a", "", "S.", ".a"} {
		path, last := long(name)
		if got, ok := Find(v, path, last); ok || !reflect.DeepEqual(got, api.Entry{}) {
			t.Errorf("%s: %v, %v", name, got, ok)
		}
	}
	if got, ok := Find(v, []string{}, "v"); !ok || got.At.Id != 20 {
		t.Errorf("with an empty path: %v, %v", got, ok)
	}
}

// P8.4: FindType, FindStr.
func TestFindTypeStr(t *testing.T) {
	d := newDesk(t)
	v := sample(d)
	for name, want := range map[string]string{"t": "int", "S.t": "!'a list", "S.u": "int", "S.I.D.t": "string"} {
		path, last := long(name)
		got, ok := FindType(v, path, last)
		if !ok || got.Name != last || d.shown(got.Scheme) != want {
			t.Errorf("%s: %v, %v; want %s", name, got, ok, want)
		}
	}
	if got, _ := FindType(v, []string{"S"}, "u"); len(got.Cons) != 1 || got.Cons[0].Name != "k" {
		t.Errorf("S.u: %v", got)
	}
	for _, name := range []string{"u", "S.I.t", "U.t", "T.t", "S.v", "int", ""} {
		path, last := long(name)
		if got, ok := FindType(v, path, last); ok || !reflect.DeepEqual(got, api.Typ{}) {
			t.Errorf("%s: %v, %v", name, got, ok)
		}
	}
	for name, want := range map[string]api.Access{
		"S":     {Id: 120, Path: []int{8}},
		"T":     {Id: 130},
		"S.I":   {Id: 120, Path: []int{8, 5}},
		"S.J":   {Id: 120, Path: []int{8, 6}},
		"S.a":   {Id: 120, Path: []int{8, 7}}, // the value of the name is another field
		"S.I.C": {Id: 120, Path: []int{8, 5, 1}},
		"S.I.D": {Id: 120, Path: []int{8, 5, 2}},
	} {
		path := strings.Split(name, ".")
		got, ok := FindStr(v, path)
		if !ok || got.Name != path[len(path)-1] || !reflect.DeepEqual(got.At, want) {
			t.Errorf("%s: %v, %v; want it at %v", name, got.At, ok, want)
		}
	}
	if got, _ := FindStr(v, []string{"S"}); !reflect.DeepEqual(got, v.Strs[1]) {
		t.Errorf("S: %v: not as it is there", got)
	}
	for _, path := range [][]string{nil, {}, {"U"}, {"S", "K"}, {"T", "I"}, {"S", "I", "D", "D"}, {""}, {"S", ""}} {
		if got, ok := FindStr(v, path); ok || !reflect.DeepEqual(got, api.Str{}) {
			t.Errorf("%q: %v, %v", path, got, ok)
		}
	}
	if _, ok := Find(api.Env{}, nil, "x"); ok {
		t.Error("in no environment")
	}
}

// P8.2: long names in programs are found as Find does, in expressions, patterns, types.
func TestLongNames(t *testing.T) {
	d := newDesk(t)
	v := sample(d)
	v.Types = append(v.Types, d.e.Env().Types...)
	d.e.Set(v)
	d.run("val f = fn (x : S.I.D.t, S.k : S.u) => S.aa val g = (S.I.D.z, S.I.D.a, S.B, S.b, S.e, S.p) exception E = S.e val h = fn S.e => 1 val i = fn (x : int S.t) => x datatype j = datatype S.u")
	d.is("f", "string * int -> int")
	d.is("i", "int list -> int list")
	notes := d.e.Notes()
	for i, n := range d.l {
		if n.Kind != api.EName && n.Kind != api.PName || len(n.Path) == 0 {
			continue
		}
		e, ok := Find(v, n.Path, n.Text)
		got := notes[i]
		if !ok || n.Text == "e" && n.Kind == api.EName && got.Is == 0 { // of an NSame
			continue
		}
		want := api.Note{Is: e.Is, At: e.At, Arg: e.Arg}
		switch e.Is {
		case api.SCon:
			want.Con, want.Tag, want.Count = e.Con, e.Tag, e.Count
		case api.SPrim:
			want.Name, want.Con = "p", -1
		}
		if !reflect.DeepEqual(got, want) {
			t.Errorf("%v: %v; want %v", n, got, want)
		}
	}
	if got := d.val("E").At; !reflect.DeepEqual(got, api.Access{Id: 120, Path: []int{8, 4}}) {
		t.Errorf("E is at %v", got)
	}
	if got := d.val("k"); got.Is != api.SCon || got.Tag != 4 {
		t.Errorf("a copied datatype's constructor: %v", got)
	}
	for _, f := range []faults{
		{"val x = §S.J.y", api.EName, api.ErrUnbound},
		{"val x = fn §S.I.x => 1", api.PName, api.ErrUnbound},
		{"val x = fn (y : §S.J.t) => 1", api.TCon, api.ErrUnbound},
		{"val x = fn (y : §S.t) => 1", api.TCon, api.ErrArity},
	} {
		askFault(t, d, f)
	}
}

// P8.2: DOpen: all that a structure says is there, with where it is.
func TestOpen(t *testing.T) {
	d := newDesk(t)
	v := sample(d)
	d.e.Set(v)
	n := len(v.Vals)
	d.run("open S")
	got := d.e.Env()
	d.askRows(d.envRows(api.Env{Vals: got.Vals[n:], Types: got.Types[1:]}), []string{
		"t = int", // what stands for nothing any more is there, too
		"u = int | k con int of string 4/5 @6.7",
		"t = !'a list",
		"b var int", // it has no field
		"b con int of string 4/5",
		"c con int of string 4/5",
		"c var int @120.8.3",
		"p prim int",
		"e exn exn @120.8.4",
		"B var int @120.8.0",
		"aa var int @120.8.2",
		"a var int @120.8.1",
		"k con int of string 4/5",
	})
	for name, want := range map[string]api.Access{"I": {Id: 120, Path: []int{8, 5}}, "J": {Id: 120, Path: []int{8, 6}}, "a": {Id: 120, Path: []int{8, 7}}} {
		if s, ok := FindStr(got, []string{name}); !ok || !reflect.DeepEqual(s.At, want) {
			t.Errorf("%s: %v, %v; want it at %v", name, s.At, ok, want)
		}
	}
	var strs []string
	for _, s := range got.Strs[len(v.Strs):] {
		strs = append(strs, s.Name)
	}
	if !slices.Equal(strs, []string{"I", "a", "J"}) {
		t.Errorf("the structures %v", strs)
	}
	d.run("open I D val x = z open S.I val y = D.a")
	notes := d.e.Notes()
	if got := notes[d.node(api.EName, "z")].At; !reflect.DeepEqual(got, api.Access{Id: 120, Path: []int{8, 5, 2, 1}}) { // D stands in I, which was opened ahead of it
		t.Errorf("z is at %v", got)
	}
	if got := notes[d.node(api.EName, "a")].At; !reflect.DeepEqual(got, api.Access{Id: 120, Path: []int{8, 5, 2, 0}}) {
		t.Errorf("D.a is at %v", got)
	}
	d.e.Set(v)
	d.run("local open S in val q = fn k => aa end val r = let open S.I in x end")
	for _, f := range []faults{
		{"open S §U T", api.SName, api.ErrUnbound},
		{"open §S.K", api.SName, api.ErrUnbound},
		{"open T S I §K", api.SName, api.ErrUnbound},
		{"val x = let open S in a end val y = §aa", api.EName, api.ErrUnbound},
	} {
		askFault(t, d, f)
	}
	if _, ok := Find(d.e.Env(), nil, "aa"); ok {
		t.Error("what a refused declaration opened is there")
	}
}

// P8.2: DOpen: names that a structure has more than once are there as often, in their order, by Dec of it alone and of what it stands in; the last one of a name counts.
func TestOpenTwice(t *testing.T) {
	d := newDesk(t)
	ints, texts := d.typ("int").Scheme, d.typ("string").Scheme
	variable := func(name string, s api.Scheme) api.Entry { return api.Entry{Name: name, Is: api.SVar, Scheme: s} }
	inner := func(name string) api.Str {
		return api.Str{Name: "T", Env: api.Env{Vals: []api.Entry{variable(name, ints), variable("v", texts)}}}
	}
	s := api.Str{Name: "S", At: api.Access{Id: 9}, Env: api.Env{
		Vals:  []api.Entry{variable("a", ints), variable("b", ints), variable("a", texts), {Name: "b", Is: api.SExn, Scheme: ints}},
		Types: []api.Typ{{Name: "t", Scheme: ints}, {Name: "t", Scheme: texts}},
		Strs:  []api.Str{inner("w"), inner("z")},
	}}
	for _, text := range []string{"open S", "local in open S end", "local open S in open S end"} {
		d.e.Set(api.Env{Strs: []api.Str{s}})
		d.run(text)
		got := d.e.Env()
		d.askRows(d.envRows(got), []string{"t = int", "t = string", "a var int @9.0", "b var int @9.1", "a var string @9.0", "b exn int @9.1"})
		if len(got.Strs) != 3 || got.Strs[1].Env.Vals[0].Name != "w" || got.Strs[2].Env.Vals[0].Name != "z" {
			t.Fatalf("%q: the structures %v", text, got.Strs)
		}
		for _, inner := range got.Strs[1:] {
			if inner.Name != "T" || !reflect.DeepEqual(inner.At, api.Access{Id: 9, Path: []int{2}}) {
				t.Errorf("%q: %s is at %v", text, inner.Name, inner.At)
			}
		}
		d.run("val x = (a, T.z)")
		d.is("x", "string * int")
		if _, e := d.play("val x = T.w"); e != api.ErrUnbound {
			t.Errorf("%q: T.w: %v", text, e)
		}
	}
}
