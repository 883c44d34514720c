package elab

import (
	"testing"

	"kiln/api"
)

// askTypes asks programs for the type of `it`, with a ! for each general variable.
func askTypes(t *testing.T, l map[string]string) {
	t.Helper()
	for text, want := range l {
		d := newDesk(t)
		if at, e := d.play(text); e != api.OK {
			t.Errorf("%q: %v at %v", text, e, d.l[at])
		} else if got := d.shown(d.val("it").Scheme); got != want {
			t.Errorf("%q: %s; want %s", text, got, want)
		}
	}
}

// P8.2: each kind of expression, by its type.
func TestExpressionTypes(t *testing.T) {
	askTypes(t, map[string]string{
		"val it = 4611686018427387903":                         "int",
		"val it = ~0x1F":                                       "int",
		"val it = 1.5E~3":                                      "real",
		"val it = \"\"":                                        "string",
		"val it = #\"a\"":                                      "char",
		"val it = {}":                                          "unit",
		"val it = {b = 1, a = 2.0}":                            "{a : real, b : int}",
		"val it = {10 = 1, 9 = 2.0, a = #\"a\"}":               "{9 : real, 10 : int, a : char}",
		"val it = (1, (\"a\", 2.0))":                           "int * (string * real)",
		"val it = nil":                                         "!'a list",
		"val it = op ::":                                       "!'a * 'a list -> 'a list",
		"val it = ref":                                         "!'a -> 'a ref",
		"val it = Div":                                         "exn",
		"exception E of int * int val it = E":                  "int * int -> exn",
		"exception E of int * int val it = E (1, 2)":           "exn",
		"val it = op =":                                        "!''a * ''a -> bool",
		"val it = op !":                                        "!'a ref -> 'a",
		"val it = op :=":                                       "!'a ref * 'a -> unit",
		"val it = op div":                                      "int * int -> int",
		"val it = op /":                                        "real * real -> real",
		"val it = op +":                                        "int * int -> int",
		"val it = op <":                                        "int * int -> bool",
		"val it = Prim.set":                                    "!'a array * int * 'a -> unit",
		"val it = fn f => fn x => f x":                         "!!('a -> 'b) -> 'a -> 'b",
		"val it = (fn x => x) 1":                               "int",
		"val it = fn x => (x : int)":                           "int -> int",
		"val it = fn x => (x : 'a)":                            "!'a -> 'a",
		"val it = fn 1 => true | _ => false":                   "int -> bool",
		"val it = fn f => fn 0 => 1 | n => f n":                "(int -> int) -> int -> int",
		"val it = 1 handle Div => 2 | _ => 3":                  "int",
		"exception E of string val it = \"a\" handle E s => s": "string",
		"val it = fn x => raise x":                             "!exn -> 'a",
		"val it = fn x => if x then raise Div else 1":          "bool -> int",
		"val it = let in 1 end":                                "int",
		"val it = let val x = 1 val y = (x, x) in (y, x) end":  "(int * int) * int",
		"val it = let val f = fn x => x in (f 1, f true) end":  "int * bool",
		"val it = fn x => let val y = x in y end":              "!'a -> 'a",
		"val it = fn x => let val f = fn y => (x, y) in (f 1, f true) end":                 "!'a -> ('a * int) * ('a * bool)",
		"val it = #a {a = 1, b = true}":                                                    "int",
		"val it = fn x => x = x":                                                           "!''a -> bool",
		"val it = fn (x, y) => x = y orelse x = 1":                                         "int * int -> bool",
		"val it = let fun f x = g x and g x = f x in (f 1) : string end":                   "string",
		"fun it f nil = nil | it f (x :: l) = f x :: it f l":                               "!!('a -> 'b) -> 'a list -> 'b list",
		"fun it f b nil = b | it f b (x :: l) = it f (f (x, b)) l":                         "!!('a * 'b -> 'b) -> 'b -> 'a list -> 'b",
		"val it = let val r = ref nil in r := [1]; !r end":                                 "int list",
		"val it = while false do 1":                                                        "unit",
		"val it = let val x = 1 in let val x = \"a\" in x end end":                         "string",
		"val x = 1 val it = let val y = x val x = \"a\" in (x, y) end":                     "string * int",
		"val it = fn x => fn y => if x < y then x else y + 1.0":                            "real -> real -> real",
		"val it = fn x => x < \"a\"":                                                       "string -> bool",
		"val it = fn {a = {b, ...}, ...} : {a : {b : 'a, c : int}} => b":                   "!{a : {b : 'a, c : int}} -> 'a",
		"val it = fn x => fn y => (fn {a, ...} => a) (if true then x else {a = y, b = 1})": "!{a : 'a, b : int} -> 'a -> 'a",
	})
}

// P8.2: what is wrong in expressions, at its node.
func TestExpressionFaults(t *testing.T) {
	askFaults(t, []faults{
		{"val x = §4611686018427387904", api.NInt, api.ErrOverflow},
		{"val x = (1, §0x4000000000000000)", api.NInt, api.ErrOverflow},
		{"val x = §y", api.EName, api.ErrUnbound},
		{"val x = §S.y", api.EName, api.ErrUnbound},
		{"val x = §Prim.y", api.EName, api.ErrUnbound},
		{"val x = §Prim.P.y", api.EName, api.ErrUnbound},
		{"val x = §x", api.EName, api.ErrUnbound},
		{"val f = fn x => §f x", api.EName, api.ErrUnbound},
		{"val x = §int", api.EName, api.ErrUnbound},
		{"val x = §1 2", api.EApp, api.ErrUnify},
		{"val x = (§fn x => x + 1) true", api.EApp, api.ErrUnify},
		{"val x = 1 §+ true", api.EApp, api.ErrUnify},
		{"val x = true §+ 1", api.EApp, api.ErrClass},
		{"val x = fn f => §f f", api.EApp, api.ErrOccurs},
		{"val x = (1.0 §= 2.0)", api.EApp, api.ErrEquality},
		{"val x = §1 : string", api.ETyped, api.ErrUnify},
		{"val x = 1 : §t", api.TCon, api.ErrUnbound},
		{"val x = fn 1 => 2 | §true => 3", api.NRule, api.ErrUnify},
		{"val x = fn 1 => 2 | §2 => true", api.NRule, api.ErrUnify},
		{"val x = fn x => x | §1 => true", api.NRule, api.ErrUnify},
		{"val x = 1 handle §1 => 2", api.NRule, api.ErrUnify},
		{"val x = 1 handle Div => 1 | §_ => true", api.NRule, api.ErrUnify},
		{"val x = 1 handle §f => f", api.NRule, api.ErrUnify},
		{"val x = §raise 1", api.ERaise, api.ErrUnify},
		{"val x = §if 1 then 2 else 3", api.EApp, api.ErrUnify},
		{"val x = let val y = 1 in §z end", api.EName, api.ErrUnbound},
		{"val x = (let val y = 1 in y end, §y)", api.EName, api.ErrUnbound},
		{"val x = ((fn y => y) 1, §y)", api.EName, api.ErrUnbound},
		{"val x = let §structure S = struct end in 1 end", api.DStr, api.ErrModule},
	})
	askFaults(t, []faults{{"val x = §#c {a = 1}", api.EApp, api.ErrFields}})
}

// P8.2: of two faults in expressions the first one is told.
func TestExpressionOrder(t *testing.T) {
	askFaults(t, []faults{
		{"val x = §y z", api.EName, api.ErrUnbound},
		{"val x = 1 §z", api.EName, api.ErrUnbound}, // ahead of the application's
		{"val x = {b = §y, a = z}", api.EName, api.ErrUnbound},
		{"val x = §y : t", api.EName, api.ErrUnbound},
		{"val x = 1 : §t", api.TCon, api.ErrUnbound},
		{"val x = fn §nil 1 => y | _ => 1", api.PName, api.ErrPat},
		{"val x = fn 1 => 1 | §true => y", api.NRule, api.ErrUnify}, // the pattern's type ahead of the expression
		{"val x = fn _ => §y | A.x => 1", api.EName, api.ErrUnbound},
		{"val x = §y handle A.x => 1", api.EName, api.ErrUnbound},
		{"val x = 1 handle §1 => y", api.NRule, api.ErrUnify},
		{"val x = 1 handle §Div => true | A.x => 1", api.NRule, api.ErrUnify},
		{"val x = raise §y", api.EName, api.ErrUnbound},
		{"val x = let val a = §y val b = z in u end", api.EName, api.ErrUnbound},
		{"val x = let val a = 1 val b = §z in u end", api.EName, api.ErrUnbound},
		{"val x = let datatype d = D in (D, §u) end", api.EName, api.ErrUnbound}, // ahead of what escapes
	})
}

// P8.2: records of hand-made trees.
func TestStrangeRecords(t *testing.T) {
	for name, labels := range map[string][]string{"twice": {"1", "2", "1"}, "empty": {""}, "too many": manyLabels(api.MaxLabels + 1)} {
		d := newDesk(t)
		record := d.handRecord(api.ERecord, api.NString, labels)
		d.handVal(d.hand(api.PWild, ""), record)
		if at, e := d.dec(d.root); e != api.ErrLabels || at != record {
			t.Errorf("%s: %v at %d; want it at %d", name, e, at, record)
		}
	}
	d := newDesk(t)
	d.handVal(d.hand(api.PName, "it"), d.handRecord(api.ERecord, api.NString, []string{"a", "10", "9", "0", "01", "_b", "A"}))
	if at, e := d.dec(d.root); e != api.OK {
		t.Fatalf("%v at %d", e, at)
	}
	d.is("it", "{9 : string, 10 : string, 0 : string, 01 : string, A : string, _b : string, a : string}")
	d = newDesk(t)
	d.handVal(d.hand(api.PName, "it"), d.handRecord(api.ERecord, api.NString, manyLabels(api.MaxLabels)))
	if at, e := d.dec(d.root); e != api.OK {
		t.Errorf("as many labels as may be: %v at %d", e, at)
	}
}

// P8.2: constants of hand-made trees: no number's text, no real's.
func TestStrangeConstants(t *testing.T) {
	for _, c := range []struct {
		kind  api.NodeKind
		text  string
		errno api.Errno
	}{
		{api.NInt, "", api.ErrDigits}, {api.NInt, "1a", api.ErrDigits}, {api.NInt, "9223372036854775808", api.ErrOverflow},
		{api.NReal, "", api.ErrReal}, {api.NReal, "1", api.ErrReal}, {api.NReal, "a.0", api.ErrReal},
	} {
		d := newDesk(t)
		wild := d.hand(api.PWild, "")
		constant := d.hand(c.kind, c.text)
		d.handVal(wild, constant)
		if at, e := d.dec(d.root); e != c.errno || at != constant {
			t.Errorf("%d of %q: %v at %d; want %v", c.kind, c.text, e, at, c.errno)
		}
		if c.kind == api.NInt {
			d = newDesk(t)
			one := d.hand(api.NInt, "1")
			constant = d.hand(c.kind, c.text)
			d.handVal(constant, one)
			if at, e := d.dec(d.root); e != c.errno || at != constant {
				t.Errorf("the pattern %q: %v at %d; want %v", c.text, e, at, c.errno)
			}
		}
	}
}

// P8.2: functions that everybody knows.
func TestFamiliarFunctions(t *testing.T) {
	d := played(t, `
datatype 'a option = NONE | SOME of 'a
exception Empty and Fail of string
fun f o g = fn x => f (g x)
fun nil @ m = m | (x :: l) @ m = x :: l @ m
fun rev l = let fun go (nil, m) = m | go (x :: t, m) = go (t, x :: m) in go (l, nil) end
fun length l = let fun go (nil, n) = n | go (_ :: t, n) = go (t, n + 1) in go (l, 0) end
fun nth (x :: _, 0) = x | nth (_ :: l, n) = nth (l, n - 1) | nth (nil, _) = raise Subscript
fun filter p nil = nil | filter p (x :: l) = if p x then x :: filter p l else filter p l
fun foldr f b nil = b | foldr f b (x :: l) = f (x, foldr f b l)
fun find p nil = NONE | find p (x :: l) = if p x then SOME x else find p l
fun concat nil = nil | concat (x :: l) = x @ concat l
fun tabulate (n, f) = let fun go i = if i = n then nil else f i :: go (i + 1) in if n < 0 then raise Size else go 0 end
fun assoc (k, (k', v) :: l) = if k = k' then v else assoc (k, l) | assoc (_, nil) = raise Fail "none"
fun curry f x y = f (x, y)
fun uncurry f (x, y) = f x y
fun fix f x = f (fix f) x
val sum = foldr (op +) 0
val compose = foldr (op o) (fn x => x)
fun update (r, f) = r := f (!r)
fun valOf (SOME x) = x | valOf NONE = raise Empty
`)
	for name, want := range map[string]string{
		"o": "!!!('a -> 'b) * ('c -> 'a) -> 'c -> 'b", "@": "!'a list * 'a list -> 'a list", "rev": "!'a list -> 'a list", "length": "!'a list -> int",
		"nth": "!'a list * int -> 'a", "filter": "!('a -> bool) -> 'a list -> 'a list", "foldr": "!!('a * 'b -> 'b) -> 'b -> 'a list -> 'b",
		"find": "!('a -> bool) -> 'a list -> 'a option", "concat": "!'a list list -> 'a list", "tabulate": "!int * (int -> 'a) -> 'a list",
		"assoc": "!!''a * (''a * 'b) list -> 'b", "curry": "!!!('a * 'b -> 'c) -> 'a -> 'b -> 'c", "uncurry": "!!!('a -> 'b -> 'c) -> 'a * 'b -> 'c",
		"fix": "!!(('a -> 'b) -> 'a -> 'b) -> 'a -> 'b", "sum": "int list -> int", "compose": "('a -> 'a) list -> 'a -> 'a", "update": "!'a ref * ('a -> 'a) -> unit", "valOf": "!'a option -> 'a",
	} {
		d.is(name, want)
	}
}
