package elab

import (
	"strconv"
	"testing"

	"kiln/api"
)

// P8.2: each kind of pattern, by the type of what it stands for.
func TestPatternTypes(t *testing.T) {
	for text, want := range map[string]string{
		"val it = fn _ => 1":                                          "!'a -> int",
		"val it = fn 1 => 2 | 0x1F => 3":                              "int -> int",
		"val it = fn \"a\" => 2":                                      "string -> int",
		"val it = fn #\"a\" => 2":                                     "char -> int",
		"val it = fn x => x":                                          "!'a -> 'a",
		"val it = fn true => 1 | false => 2":                          "bool -> int",
		"val it = fn nil => 1":                                        "!'a list -> int",
		"val it = fn x :: _ => x":                                     "!'a list -> 'a",
		"val it = fn ref x => x":                                      "!'a ref -> 'a",
		"val it = fn Div => 1 | _ => 2":                               "exn -> int",
		"exception E of string val it = fn E s => s":                  "exn -> string",
		"val it = fn {} => 1":                                         "unit -> int",
		"val it = fn {b = x, a = y} => (x, y)":                        "!!{a : 'a, b : 'b} -> 'b * 'a",
		"val it = fn {10 = x, 9 = y} => (x, y)":                       "!!{9 : 'a, 10 : 'b} -> 'b * 'a",
		"val it = fn ({a, ...} : {a : int, b : real}) => a":           "{a : int, b : real} -> int",
		"val it = (fn {b, a, ...} => a) {a = 1, b = 2, c = 3}":        "int",
		"val it = (fn {...} => 1) ()":                                 "int",
		"val it = fn (x : int) => x":                                  "int -> int",
		"val it = fn (x : int list) :: _ => x":                        "int list list -> int list",
		"val it = fn (x as (y, 1)) => (x, y)":                         "!'a * int -> ('a * int) * 'a",
		"val it = fn (x as y as 1) => (x, y)":                         "int -> int * int",
		"val it = fn (nil as true) => nil":                            "bool -> bool",
		"datatype 'a t = A of 'a | B val it = fn A x => x | B => 1":   "int t -> int",
		"datatype 'a t = A of 'a | B val it = fn (A 1, y) => [y, B]":  "!int t * 'a t -> 'a t list",
		"val it = fn op + => op + 1":                                  "!(int -> 'a) -> 'a",
		"val x = 1 val it = fn x => x":                                "!'a -> 'a",
		"val it = fn (x, y) => fn x => y":                             "!!!'a * 'b -> 'c -> 'b",
		"val it = 1 val (it, it2) = (\"a\", it)":                      "string",
		"val (_ : int list, it) = (nil, nil)":                         "!'a list",
		"val it = fn x => let val (y as (z, _)) = x in (z, y) end":    "!!'a * 'b -> 'a * ('a * 'b)",
		"val it = fn x : int list list => let val [[y]] = x in y end": "int list list -> int",
	} {
		d := newDesk(t)
		if at, e := d.play(text); e != api.OK {
			t.Errorf("%q: %v at %v", text, e, d.l[at])
			continue
		}
		if got := d.shown(d.val("it").Scheme); got != want {
			t.Errorf("%q: %s; want %s", text, got, want)
		}
	}
}

// P8.2: what is wrong in patterns, at its node.
func TestPatternFaults(t *testing.T) {
	askFaults(t, []faults{
		{"val f = fn §4611686018427387904 => 1", api.NInt, api.ErrOverflow},
		{"val f = fn (1, §~4611686018427387905) => 1", api.NInt, api.ErrOverflow},
		{"val f = fn §op :: => 1", api.PName, api.ErrPat},
		{"exception E of int val f = fn §E => 1", api.PName, api.ErrPat},
		{"val f = fn §ref => 1", api.PName, api.ErrPat},
		{"val f = fn §Prim.size => 1", api.PName, api.ErrUnbound},
		{"val f = fn §A.x => 1", api.PName, api.ErrUnbound},
		{"val f = fn (x, §x) => 1", api.PName, api.ErrTwice},
		{"val f = fn (x, y, {a = z, b = §y}) => 1", api.PName, api.ErrTwice},
		{"val (x, y) = (1, 2) and §y = 3", api.PName, api.ErrTwice},
		{"val f = fn (x, §x as 1) => 1", api.PAs, api.ErrTwice},
		{"val f = fn x as §x => 1", api.PName, api.ErrTwice},
		{"val f = fn §A 1 => 1", api.PName, api.ErrUnbound},
		{"val f = fn §Prim.size 1 => 1", api.PName, api.ErrUnbound},
		{"val x = 1 val f = fn §x 1 => 1", api.PName, api.ErrUnbound},
		{"val f = fn §abs 1 => 1", api.PName, api.ErrUnbound},
		{"val f = fn §nil 1 => 1", api.PName, api.ErrPat},
		{"val f = fn §Div x => 1", api.PName, api.ErrPat},
		{"datatype t = A of int val f = fn §A true => 1", api.PApp, api.ErrUnify},
		{"val f = fn 1 §:: 2 => 1", api.PApp, api.ErrUnify},
		{"val f = fn (x : §t) => 1", api.TCon, api.ErrUnbound},
		{"val f = fn (§1 : string) => 1", api.PTyped, api.ErrUnify},
		{"val f = fn (§{a = x, ...} : {b : int}) => 1", api.PTyped, api.ErrFields},
		{"val f = fn (§{a = x, ...} : int) => 1", api.PTyped, api.ErrUnify},
		{"val f = fn (§{a = x} : {a : int, b : int}) => 1", api.PTyped, api.ErrFields},
		{"val §f = fn {a = x, ...} => x", api.NBind, api.ErrFields},
	})
}

// P8.2: of two faults in patterns the first one is told: from the left, and from within.
func TestPatternOrder(t *testing.T) {
	askFaults(t, []faults{
		{"val f = fn (§A.x, 99999999999999999999) => 1", api.PName, api.ErrUnbound},
		{"val f = fn {b = §A.x, a = 99999999999999999999} => 1", api.PName, api.ErrUnbound}, // as they stand, not by their labels
		{"val f = fn §nil 99999999999999999999 => 1", api.PName, api.ErrPat},
		{"val f = fn 1 :: §99999999999999999999 => 1", api.NInt, api.ErrOverflow}, // ahead of the types
		{"val f = fn (§99999999999999999999 : t) => 1", api.NInt, api.ErrOverflow},
		{"val f = fn (1 : §t) => 1", api.TCon, api.ErrUnbound},
		{"val f = fn (x, §x as 99999999999999999999) => 1", api.PAs, api.ErrTwice},
		{"val f = fn x as §99999999999999999999 => 1", api.NInt, api.ErrOverflow},
		{"val f = fn (x, §x : t) => 1", api.PName, api.ErrTwice},
		{"exception E of int val f = fn (§E, E true) => 1", api.PName, api.ErrPat},
		{"val f = fn (x, §A.x) => 1", api.PName, api.ErrUnbound},
	})
}

// P8.2: patterns of hand-made trees: labels twice, no labels, too many, the wrong ones.
func TestStrangePatternRecords(t *testing.T) {
	for name, labels := range map[string][]string{"twice": {"a", "b", "a"}, "empty": {"a", ""}, "too many": manyLabels(api.MaxLabels + 1)} {
		for _, dots := range []bool{false, true} {
			d := newDesk(t)
			record := d.handRecord(api.PRecord, api.PWild, labels)
			if dots {
				d.l = append(d.l, api.Node{Kind: api.PDots})
				d.l[record].Kids = append(d.l[record].Kids, len(d.l)-1)
				d.l = append(d.l, d.l[record]) // behind its last kid
				record = len(d.l) - 1
			}
			d.handVal(record, d.hand(api.NInt, "1"))
			if at, e := d.dec(d.root); e != api.ErrLabels || at != record {
				t.Errorf("%s, %v: %v at %d; want it at %d", name, dots, e, at, record)
			}
		}
	}
	d := newDesk(t)
	labels := manyLabels(api.MaxLabels)
	d.handVal(d.handRecord(api.PRecord, api.PWild, labels), d.handRecord(api.ERecord, api.EName, labels))
	if at, e := d.dec(d.root); e != api.ErrUnbound {
		t.Errorf("as many labels as may be: %v at %d", e, at)
	}
}

// manyLabels are labels, not in their order.
func manyLabels(n int) []string {
	var l []string
	for i := n; i > 0; i-- {
		l = append(l, "l"+strconv.Itoa(i))
	}
	return l
}
