package lower

import (
	"slices"
	"strconv"
	"strings"
	"testing"

	"kiln/api"
	"kiln/lambda"
)

// run is what a text does with much fuel, which its program must do, too.
func run(t *testing.T, text, want string, input ...string) {
	t.Helper()
	does(t, unitsOf(t, text), want, input...)
	if t.Failed() {
		t.Fatal(text)
	}
}

// P12.1: what goes on without an end is out of fuel, whatever the fuel; and so is its program.
func TestEndless(t *testing.T) {
	t.Parallel()
	for _, text := range []string{
		"fun f x = f x val y = f 1", "fun f x = 1 + f x val y = f 1", "fun f x = (f x) handle _ => f x val y = f 1", "fun f x = (raise Div) handle Div => f x val y = f 1", "val _ = while true do ()",
		"fun f x = let val y = f x in y end val y = f 1", "datatype t = T of t -> int val y = (fn T f => f (T f)) (T (fn T f => f (T f)))", "val r = ref (fn x => x + 0) val _ = r := (fn x => !r x) val y = !r 1",
	} {
		l := unitsOf(t, text)
		for _, fuel := range []int{0, 1, 2, 10, 1000, 100000, api.MaxRun} {
			if o, e := Run(l, nil, fuel); e != api.OK || o.Status != api.OutOfFuel || o.Steps != fuel || len(o.Out) != 0 || o.Exn != "" {
				t.Errorf("%s with %d: %+v, %d", text, fuel, o, e)
			}
		}
		held(t, l, lowers(t, l), nil, 1000)
	}
	l := unitsOf(t, `fun f x = (Prim.print "a"; f x) val y = f 1`)
	for _, fuel := range []int{1, 10, 11, 20, 21, 100, 5000} { // 11 steps to the first one, 10 more to each other one
		o, _ := Run(l, nil, fuel)
		if o.Status != api.OutOfFuel || len(o.Out) != (fuel-1)/10 {
			t.Errorf("with %d: %d printed", fuel, len(o.Out))
		}
		held(t, l, lowers(t, l), nil, fuel)
	}
}

// P12.1: lines of input, one behind the other, and what comes when they have ended.
func TestInput(t *testing.T) {
	text := "fun go 0 = () | go n = (Prim.print (Prim.input ()); go (n - 1)) val _ = go 4"
	run(t, text, `"a\n" "\n" "" "" done`, "a", "")
	run(t, text, `"" "" "" "" done`)
	run(t, text, `"a\n" "b\n" "c\n" "d\n" done`, "a", "b", "c", "d", "e")
	long := strings.Repeat("x", api.MaxString)
	run(t, "val s = Prim.input () val _ = Prim.print (Prim.intText (Prim.size s)) val _ = Prim.print (Prim.input ())", `"65536" "b\n" done`, long, "b")
	run(t, "val f = Prim.input val _ = Prim.print (f () ) val (a, b) = (f (), Prim.input ()) val _ = Prim.print b", `"1\n" "3\n" done`, "1", "2", "3")
}

// P12.1: names that are made anew, and what knew the ones ahead of them.
func TestAnew(t *testing.T) {
	say := "fun say n = Prim.print (Prim.intText n) "
	for text, want := range map[string]string{
		"val x = 1 fun f () = x val x = 2 val _ = say (f ()) val _ = say x":                                                                                                                                                               `"1" "2" done`,
		"exception E fun f () = raise E exception E val _ = (f (); 1) handle E => (say 1; 1) | _ => (say 2; 2)":                                                                                                                           `"2" done`,
		"exception E exception F = E exception E val _ = (raise F) handle E => say 1 | F => say 2":                                                                                                                                        `"2" done`,
		"fun mk () = let exception E in (fn () => raise E, fn f => (f () ; 0) handle E => 1) end val (r, h) = mk () val (s, i) = mk () val _ = say (h r) val _ = say (h s handle _ => 2)":                                                 `"1" "2" done`,
		"datatype t = A | B val x = A datatype t = B | A | C val _ = say (case B of B => 1 | A => 2 | C => 3)":                                                                                                                            `"1" done`,
		"structure S = struct val x = 1 end structure T = S structure S = struct val x = 2 end val _ = say T.x val _ = say S.x":                                                                                                           `"1" "2" done`,
		"structure S = struct val x = 1 val x = 2 end val _ = say S.x":                                                                                                                                                                    `"2" done`,
		"structure S = struct val x = 1 end open S val x = x + 1 val _ = say S.x val _ = say x":                                                                                                                                           `"1" "2" done`,
		"val x = 1 local val x = 2 in val y = x end val _ = say x val _ = say y":                                                                                                                                                          `"1" "2" done`,
		"functor F (X : sig val n : int end) = struct exception E val r = ref X.n end structure A = F (val n = 1) structure B = F (val n = 2) val _ = A.r := 5 val _ = say (!B.r) val _ = (raise A.E) handle B.E => say 3 | A.E => say 4": `"2" "4" done`,
	} {
		run(t, say+text, want)
	}
	run(t, "exception Div val x = 1 div 0 handle Div => 2", "uncaught Div")
	run(t, "exception Match val f = fn 0 => 1 val x = f 1 handle Match => 2", "uncaught Match")
	run(t, "exception Bind val x = let val 0 = 1 in 2 end handle Bind => 2", "uncaught Bind")
}

// P12.1: what is done in order: fields as they stand, functions ahead of arguments, all expressions of a val ahead of its patterns, structures.
func TestOrder(t *testing.T) {
	for text, want := range map[string]string{
		`val {b, a} = {b = (say "b"; 1), a = (say "a"; 2)} val _ = Prim.print (Prim.intText (a - b))`:                          `"b" "a" "1" done`,
		`val x = {10 = (say "10"; 1), 9 = (say "9"; 2), a = say "a", 1 = say "1"}`:                                             `"10" "9" "a" "1" done`,
		`val x = (say "f"; fn y => y) (say "x"; 1)`:                                                                            `"f" "x" done`,
		`val 0 = (say "a"; 1) and y = (say "b"; 2)`:                                                                            `"a" "b" uncaught Bind`,
		`val x = (say "a"; 1) + (say "b"; 2)`:                                                                                  `"a" "b" done`,
		`val 1 = op - {2 = (say "b"; 1), 1 = (say "a"; 2)}`:                                                                    `"b" "a" done`,
		`val x = (say "a"; 1) :: (say "b"; nil)`:                                                                               `"a" "b" done`,
		`val x = (say "f"; Prim.size) (say "x"; "abc")`:                                                                        `"f" "x" done`,
		`structure S = struct val _ = say "S" end and T = struct val _ = say "T" end`:                                          `"S" "T" done`,
		`functor F (X : sig end) = struct val _ = say "F" end structure S = F (struct val _ = say "X" end) structure S = F ()`: `"X" "F" "F" done`,
		`local val _ = say "a" in val _ = say "b" end`:                                                                         `"a" "b" done`,
		`val _ = (say "a"; raise Div) handle Div => say "b"`:                                                                   `"a" "b" done`,
		`val f = fn x => (say "f"; fn y => (say "g"; x + y)) val _ = Prim.print (Prim.intText (f 1 (say "x"; 2)))`:             `"f" "x" "g" "3" done`,
		`val r = ref 1 val (ref x) = (r := 2; r) and _ = r := 3 val _ = Prim.print (Prim.intText x)`:                           `"3" done`,
		`val r = ref 0 val x = (!r, (r := 1; !r), !r) val (0, 1, 1) = x`:                                                       `done`,
		`exception E of int val x = raise E (say "x"; 1)`:                                                                      `"x" uncaught E`,
	} {
		run(t, "fun say s = Prim.print s "+text, want)
	}
}

// P12.1: the first rule that matches; what is nested; exceptions that are one though they have two names.
func TestMatches(t *testing.T) {
	tests := map[string]string{
		"case 2 of 1 => 10 | 2 => 20 | 2 => 30 | _ => 40":                                             "20",
		"case \"b\" of \"a\" => 1 | _ => 2":                                                           "2",
		"case \"a\" of \"a\" => 1 | _ => 2":                                                           "1",
		"case 3 of 1 => 10 | 2 => 20 | n => n":                                                        "3",
		"case \"b\" of \"a\" => 1 | \"b\" => 2 | _ => 3":                                              "2",
		"case #\"b\" of #\"a\" => 1 | #\"b\" => 2 | _ => 3":                                           "2",
		"case (1, 2) of (0, _) => 1 | (_, 3) => 2 | (1, 2) => 3 | _ => 4":                             "3",
		"case [1, 2] of nil => 1 | [_] => 2 | [x, y] => x + y | _ => 9":                               "3",
		"case [1, 2, 3] of nil => 1 | [_] => 2 | [x, y] => x + y | _ => 9":                            "9",
		"case B 3 of A => 1 | B 2 => 2 | C _ => 4 | B n => n":                                         "3",
		"case C (A, B 2) of C (B _, _) => 1 | C (A, A) => 2 | C (x, B n) => n + 1 | _ => 5":           "3",
		"case C (A, C (B 1, A)) of C (_, C (B 0, _)) => 1 | C (A, C (x as B n, y)) => n + 1 | _ => 5": "2",
		"case ref 2 of ref 1 => 1 | ref (x as 2) => x | _ => 3":                                       "2",
		"case D {x = 1, y = [2]} of D {y = nil, ...} => 1 | D {x = x, y = y :: _} => x + y":           "3",
		"case Only 4 of Only 3 => 1 | Only x => x":                                                    "4",
		"(raise F 2) handle E => 1 | F 1 => 2 | F n => n + 1":                                         "3",
		"(raise G) handle E => 1 | _ => 2":                                                            "1",
		"(raise F 2) handle H 1 => 1 | F 1 => 2 | H 2 => 3 | _ => 4":                                  "3",
		"case ((1, 2), (3, 4)) of ((a, 0), _) => a | ((0, b), _) => b | (_, (3, c)) => c | _ => 0":    "4",
		"case (true, false) of (false, _) => 1 | (true, true) => 2 | (true, false) => 3":              "3",
		"case {a = 1, b = 2, c = 3} of {c = 4, ...} => 0 | {b, ...} => b":                             "2",
		"(fn (x as (y, z as 2)) => #1 x + y + z | _ => 0) (1, 2)":                                     "4",
		"case Div of Div => 1 | _ => 2":                                                               "1",
	}
	for e, want := range tests {
		run(t, "datatype t = A | B of int | C of t * t | D of {x : int, y : int list} datatype u = Only of int exception E exception F of int exception G = E exception H = F val _ = Prim.print (Prim.intText ("+e+"))", strconv.Quote(want)+" done")
	}
}

// Examples of the chapter, and of the whole document.
func TestExamples(t *testing.T) {
	for text, want := range map[string]string{
		"val x = 1 div 0":                             "uncaught Div",
		"val _ = Prim.print (Prim.intText 5)":         `"5" done`,
		"val f = fn 0 => 1 val y = f 2":               "uncaught Match",
		"val 0 = 1":                                   "uncaught Bind",
		"exception E val x = (raise E) handle E => 1": "done",
		"fun f x = f x val y = f 1":                   "out of fuel",
		"structure S :> sig val x : int end = struct val y = 2 val x = 1 end val z = Prim.print (Prim.intText S.x)": `"1" done`,
		"val x = 4611686018427387903 + 1":                                                           "uncaught Overflow",
		"val x = 1.0 / 0.0 val _ = Prim.print (Prim.realText (x - x))":                              `"nan" done`,
		"fun len nil = 0 | len (_ :: l) = 1 + len l val _ = Prim.print (Prim.intText (len [1, 2]))": `"2" done`,
		"exception E val _ = (raise E) handle E => Prim.print \"e\"":                                `"e" done`,
	} {
		l := unitsOf(t, text)
		o, e := Run(l, nil, 20000)
		b, _ := lambda.Run(lowers(t, l), nil, 1<<22)
		if showOutcome(o) != want || showOutcome(b) != want || e != api.OK {
			t.Errorf("%s: %s, lowered %s, %d; want %s", text, showOutcome(o), showOutcome(b), e, want)
		}
	}
}

// P12.1, P12.3: what the structure Prim has, and what a program does with it as with another structure.
func TestPrim(t *testing.T) {
	for text, want := range map[string]string{
		"structure P = Prim val _ = P.print \"a\"":                                      `"a" done`,
		"open Prim val _ = print (intText (size \"abc\"))":                              `"3" done`,
		"structure P : sig val print : string -> unit end = Prim val _ = P.print \"a\"": `"a" done`,
		"functor F (P : sig val size : string -> int val eq : int -> int end) = struct val x = P.size \"ab\" end structure A = F (struct open Prim fun eq x = x end) val 2 = A.x":                  "done",
		"structure S = struct structure P = Prim open P end structure T : sig val size : string -> int structure P : sig val chr : int -> char end end = S val 1 = T.size (Prim.str (T.P.chr 65))": "done",
		"structure S = struct structure P = Prim end open S val _ = P.print \"a\"":                                                                                                                 `"a" done`,
		"structure S : sig structure P : sig end end = struct structure P = Prim end structure Q = S.P":                                                                                            "done",
		"val l = Prim.ref 1 val Prim = 2 val _ = Prim.:= (l, Prim) val (ref 2) = l":                                                                                                                "done",
	} {
		run(t, text, want)
	}
	for i, p := range api.Prims() {
		if p.Con != -1 || p.Name == "=" { // no long name ends so
			continue
		}
		text := "structure S = struct val f = Prim." + p.Name + " end"
		l := unitsOf(t, text)
		o, _ := Run(l, nil, 100)
		program := lowers(t, l)
		if o.Status != api.Done || !slices.ContainsFunc(program.Nodes, func(n api.Term) bool { return n.Kind == api.LPrim && n.N == i }) {
			t.Errorf("%s: %s", text, showOutcome(o))
		}
	}
}

// P12.1: overloaded primitives are those of the type that elaboration found.
func TestOverloaded(t *testing.T) {
	for text, want := range map[string]string{
		"val _ = Prim.print (Prim.realText (1.5 + 2.0))":               "3.5",
		"val _ = Prim.print (Prim.realText (~ 1.5 * 2.0 - abs ~1.0))":  "~4.0",
		"val _ = Prim.print (Prim.intText (~ 3 * 2 - abs ~1))":         "~7",
		"fun f x = x + 1.0 val _ = Prim.print (Prim.realText (f 1.0))": "2.0",
		"fun f x = x + x val _ = Prim.print (Prim.intText (f 2))":      "4",
		"fun say b = Prim.print (if b then \"yes\" else \"no\") val _ = say (\"ab\" < \"b\" andalso #\"a\" <= #\"a\" andalso 1.5 > 1.0 andalso 2 >= 2)": "yes",
		"fun say b = Prim.print (if b then \"yes\" else \"no\") val _ = say (\"ab\" >= \"b\" orelse #\"a\" > #\"a\" orelse 1.5 <= 1.0 orelse 2 < 2)":    "no",
		"val add = op + val _ = Prim.print (Prim.intText (add (1, 2)))":                                                                                 "3",
	} {
		run(t, text, strconv.Quote(want)+" done")
	}
}
