package elab

import (
	"slices"
	"strconv"
	"strings"
	"testing"

	"kiln/api"
)

// rowOf is all that an Entry says, in a text.
func (d *desk) rowOf(e api.Entry) string {
	d.t.Helper()
	row := e.Name + " " + [...]string{"?", "var", "con", "exn", "prim"}[e.Is] + " " + d.shown(e.Scheme)
	if e.Is == api.SCon {
		name, _, _, _ := d.e.Book().Named(e.Con)
		row += " of " + name + " " + strconv.Itoa(e.Tag) + "/" + strconv.Itoa(e.Count)
	}
	if e.Arg {
		row += " arg"
	}
	if e.At.Id != 0 {
		row += " @" + strconv.Itoa(e.At.Id)
	}
	for _, p := range e.At.Path {
		row += "." + strconv.Itoa(p)
	}
	return row
}

// typRow is all that a Typ says.
func (d *desk) typRow(t api.Typ) string {
	d.t.Helper()
	row := t.Name + " = " + d.shown(t.Scheme)
	for _, c := range t.Cons {
		row += " | " + d.rowOf(c)
	}
	return row
}

// envRows is all that an environment says of values and types.
func (d *desk) envRows(v api.Env) []string {
	d.t.Helper()
	var l []string
	for _, t := range v.Types {
		l = append(l, d.typRow(t))
	}
	for _, e := range v.Vals {
		l = append(l, d.rowOf(e))
	}
	return l
}

func (d *desk) askRows(got, want []string) {
	d.t.Helper()
	if !slices.Equal(got, want) {
		d.t.Errorf("got\n%s\nwant\n%s", strings.Join(got, "\n"), strings.Join(want, "\n"))
	}
}

// P8.1: New: the first environment.
func TestFirstEnvironment(t *testing.T) {
	d := newDesk(t)
	v := d.e.Env()
	d.askRows(d.envRows(v), []string{
		"int = int",
		"real = real",
		"char = char",
		"string = string",
		"exn = exn",
		"ref = !'a ref",
		"array = !'a array",
		"bool = bool | false con bool of bool 0/2 | true con bool of bool 1/2",
		"list = !'a list | nil con !'a list of list 1/2 | :: con !'a * 'a list -> 'a list of list 0/2 arg",
		"unit = unit",
		"false con bool of bool 0/2",
		"true con bool of bool 1/2",
		"nil con !'a list of list 1/2",
		":: con !'a * 'a list -> 'a list of list 0/2 arg",
		"ref con !'a -> 'a ref of ref 0/1 arg",
		"Bind exn exn @1",
		"Chr exn exn @2",
		"Div exn exn @3",
		"Domain exn exn @4",
		"Match exn exn @5",
		"Overflow exn exn @6",
		"Size exn exn @7",
		"Subscript exn exn @8",
		"+ prim !'a# * 'a# -> 'a#",
		"- prim !'a# * 'a# -> 'a#",
		"* prim !'a# * 'a# -> 'a#",
		"~ prim !'a# -> 'a#",
		"abs prim !'a# -> 'a#",
		"< prim !'a## * 'a## -> bool",
		"> prim !'a## * 'a## -> bool",
		"<= prim !'a## * 'a## -> bool",
		">= prim !'a## * 'a## -> bool",
		"div prim int * int -> int",
		"mod prim int * int -> int",
		"/ prim real * real -> real",
		"= prim !''a * ''a -> bool",
		"<> prim !''a * ''a -> bool",
		"! prim !'a ref -> 'a",
		":= prim !'a ref * 'a -> unit",
	})
	for name, con := range map[string]int{"int": api.ConInt, "real": api.ConReal, "char": api.ConChar, "string": api.ConString, "exn": api.ConExn, "ref": api.ConRef, "array": api.ConArray} {
		if got, _ := d.e.Book().Look(d.typ(name).Scheme.Type); got.Con != con {
			t.Errorf("%s: not the book's own constructor: %d", name, got.Con)
		}
	}
	if got := d.val("ref").Con; got != api.ConRef {
		t.Errorf("ref is of the type constructor %d", got)
	}
	for _, name := range []string{"bool", "list"} {
		got, _ := d.e.Book().Look(d.typ(name).Scheme.Type)
		if _, _, equal, _ := d.e.Book().Named(got.Con); equal != api.If {
			t.Errorf("%s: equality %d", name, equal)
		}
		for _, c := range d.typ(name).Cons {
			if c.Con != got.Con {
				t.Errorf("%s is of %d, not %d", c.Name, c.Con, got.Con)
			}
		}
	}
}

// P8.1: the structure Prim: all primitives that are not overloaded, in order.
func TestPrim(t *testing.T) {
	d := newDesk(t)
	v := d.e.Env()
	if len(v.Strs) != 1 || v.Strs[0].Name != "Prim" || len(v.Strs[0].Env.Types)+len(v.Strs[0].Env.Strs) > 0 {
		t.Fatalf("structures: %v", v.Strs)
	}
	var got, want []string
	for _, e := range v.Strs[0].Env.Vals {
		got = append(got, strings.ReplaceAll(d.rowOf(e), "!", ""))
	}
	for _, p := range api.Prims() {
		if p.Con == -1 {
			want = append(want, strings.ReplaceAll(p.Name+" prim "+p.Type, "!", ""))
		}
	}
	d.askRows(got, want)
	for name, vars := range map[string]int{"=": 1, "set": 1, "size": 0, "!": 1, "intScan": 0, "array": 1} {
		if e := d.val("Prim." + name); len(e.Scheme.Vars) != vars || e.At.Id != 0 || e.At.Path != nil {
			t.Errorf("Prim.%s: %v", name, e)
		}
	}
	d.run("val a = Prim.get (Prim.array (2, #\"a\"), 0) val b = Prim.input () = \"\" val c = Prim.<> (1, 2)")
	d.is("a", "char")
	d.is("b", "bool")
	d.is("c", "bool")
}
