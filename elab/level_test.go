package elab

import (
	"testing"

	"kiln/api"
)

// P8.2: what is a value, and becomes general; what is none, and does not.
func TestValues(t *testing.T) {
	for expression, value := range map[string]bool{
		"nil":                          true,
		"fn x => x":                    true,
		"op ::":                        true,
		"(nil, 1, 2.0, \"a\", #\"a\")": true,
		"{a = nil, b = fn x => x}":     true,
		"{a = nil, b = (fn x => x) 1}": false,
		"nil : 'a list":                true,
		"(fn x => x) nil":              false,
		"[nil]":                        true,
		"nil :: nil":                   true,
		"nil :: (fn x => x) nil":       false,
		"A nil":                        true,
		"A (A nil)":                    true,
		"A (fn x => x)":                true,
		"A ((fn x => x) nil)":          false,
		"(nil, (A : int -> int t) 1)":  false, // of a name alone
		"ref nil":                      false,
		"A (ref nil)":                  false,
		"(nil, ref 1)":                 false,
		"let in nil end":               false,
		"raise Div":                    false,
		"nil handle _ => nil":          false,
		"if true then nil else nil":    false,
		"(nil, E nil)":                 true,
		"(nil, E (f nil))":             false,
		"f nil":                        false,
		"op ! (r)":                     false,
		"(nil, Prim.size \"\")":        false,
		"(ref, nil)":                   true,
	} {
		d := played(t, "datatype 'a t = A of 'a exception E of int list val f = fn x => x val r = ref (fn x => x)")
		d.run("val it = " + expression)
		if got := len(d.val("it").Scheme.Vars) > 0; got != value {
			t.Errorf("%s: general: %v", expression, got)
		}
		for _, v := range d.e.Book().Free(d.val("it").Scheme.Type) {
			if look, _ := d.e.Book().Look(v); (look.Level > 0) != value {
				t.Errorf("%s: a variable of level %d", expression, look.Level)
			}
		}
	}
}

// P8.2: a name that hides a constructor makes nothing.
func TestHiddenMakers(t *testing.T) {
	askTypes(t, map[string]string{
		"val it = let val f = fn x => x val g = f f in g end":                    "'a -> 'a",
		"val it = fn z => let val y = (z, nil) in (1 :: #2 y, true :: #2 y) end": "!'a -> int list * bool list",
		"val f = fn x => x val it = let val A = f val y = A nil in y end":        "'a list",
		"datatype r = datatype ref val it = (nil, fn x => ref x)":                "!!'a list * ('b -> 'b ref)",
	})
}

// P8.2: what becomes general within a function: not what is bound around.
func TestLevels(t *testing.T) {
	askTypes(t, map[string]string{
		"val it = fn x => let val y = fn z => x in (y 1, y true) end":                                                       "!'a -> 'a * 'a",
		"val it = fn x => let val y = fn z => (x = z; z) in y end":                                                          "!''a -> ''a -> ''a",
		"val it = fn x => let val f = fn y => let val g = fn z => (x, y, z) in (g 1, g true) end in (f #\"a\", f \"\") end": "!'a -> (('a * char * int) * ('a * char * bool)) * (('a * string * int) * ('a * string * bool))",
		"val it = fn x => let val (a, b) = (fn y => y, x) in (a 1, a b) end":                                                "!'a -> int * 'a",
		"val it = let val r = ref (fn x => x) in r := (fn x => x + 1); !r end":                                              "int -> int",
		"val it = fn b => let val f = fn x => x val g = if b then f else f in (g, g 1) end":                                 "bool -> (int -> int) * int",
		"fun it x = let fun g y = it y in g x end":                                                                          "!!'a -> 'b",
		"val rec it = fn (x, y) => let val z = fn u => (x, u) in #1 (z (it (y, x))) end":                                    "!'a * 'a -> 'a",
		"val it = fn f => let val g = fn x => f (f x) in g end":                                                             "!('a -> 'a) -> 'a -> 'a",
	})
	askFaults(t, []faults{
		{"val it = fn x => let val y = fn z => if true then x else z in (y 1, §y true) end", api.EApp, api.ErrUnify},
		{"val it = fn f => (f 1, §f true)", api.EApp, api.ErrUnify},
		{"val rec f = fn x => (f 1, §f true)", api.EApp, api.ErrUnify},
		{"val r = ref nil val a = r := [1] val b = r §:= [true]", api.EApp, api.ErrUnify},
		{"val f = fn x => let val r = ref nil val a = (r := [x]) in (r := [1], r §:= [true]) end", api.EApp, api.ErrUnify},
		{"val x = let val (§y : 'a list ref) = ref nil in 1 end", api.NBind, api.ErrRigid},
		{"val (§x : 'a list ref) = ref nil", api.NBind, api.ErrRigid},
	})
}

// P8.2: a type variable belongs to the outermost DVal or DRec in which it stands by itself.
func TestTypeVariableScopes(t *testing.T) {
	askTypes(t, map[string]string{
		"val it = fn (x : 'a) => let val f = fn (y : 'a) => y in f x end":                                        "!'a -> 'a",
		"val it = let val f = fn (y : 'a) => y in (f 1, f true) end":                                             "int * bool",
		"val it = let fun f (y : 'a) = y in (f 1, f true) end":                                                   "int * bool",
		"val it = fn x => let type 'a t = 'a list in (x : int t) end":                                            "int list -> int list",
		"val it = fn x => let datatype 'a t = A of 'a in let val A y = A x in y end end":                         "!'a -> 'a",
		"val it = fn (x : 'a) => let datatype 'a t = A of 'a in let val A y = A 1 in (x, y) end end":             "!'a -> 'a * int",
		"val it = (let val f : 'a -> 'a = fn x => x in f 1 end, let val f : 'a -> 'a = fn x => x in f true end)": "int * bool",
		"val rec it : 'a -> 'b -> 'a = fn x => fn (y : 'b) => let val z : 'a = x in z end":                       "!!'a -> 'b -> 'a",
		"val it = fn (x : ''a, y : 'b) => (x = x, y)":                                                            "!!''a * 'b -> bool * 'b",
		"val it = fn x => let exception E of int in fn (y : 'a) => y end":                                        "!!'b -> 'a -> 'a",
	})
	askFaults(t, []faults{
		{"val it = fn (x : 'a) => let val f = fn (y : 'a) => y in §f 1 end", api.EApp, api.ErrRigid},
		{"val it = (let fun f (y : 'a) = y in §f 1 end, fn (x : 'a) => x)", api.EApp, api.ErrRigid}, // it stands by itself further on
		{"val it = fn x => let fun f (y : 'a) = §if true then x else y in 1 end", api.NRule, api.ErrRigid},
		{"val f = fn (x : 'a) => 1 val g = fn (x : int) => (§x : 'a)", api.ETyped, api.ErrRigid},
	})
}

// P8.2: what is overloaded is settled where it would become general, or at the end.
func TestOverloaded(t *testing.T) {
	askTypes(t, map[string]string{
		"val it = fn x => x + x":                                                     "int -> int",
		"val it = fn x => x + 1.0":                                                   "real -> real",
		"val it = fn (x, y) => x < y":                                                "int * int -> bool",
		"val it = fn (x, y) => (x < y, y + y)":                                       "int * int -> bool * int",
		"val it = let val f = fn x => x + x in f end":                                "int -> int",
		"val it = fn x => let val f = fn y => y + x in (f, x + 1.0) end":             "real -> (real -> real) * real",
		"val it = fn x => let val f = fn y => y + x in f x end":                      "int -> int",
		"val it = fn x => let val y = x + x in y + 1.0 end":                          "real -> real",
		"val it = let val r = ref (fn x => x + x) in r := (fn x => x + 1.0); !r end": "real -> real",
		"val it = ref (fn x => x + x)":                                               "(int -> int) ref",
		"val it = ref (op +)":                                                        "(int * int -> int) ref",
		"val (it, b) = (fn x => ~ x, fn x => abs x)":                                 "int -> int",
		"val f = fn x => x + x and it = fn x => x + 1.0":                             "real -> real",
		"fun it x = g x and g x = x * x":                                             "int -> int",
		"fun g x = x * x and it x = (g x; x - 1.0)":                                  "real -> real",
		"val it = [op <, fn (x : string, y) => true]":                                "(string * string -> bool) list",
		"val it = (fn f => 1) (op +)":                                                "int",
		"val it = #\"a\" >= #\"b\"":                                                  "bool",
	})
	askFaults(t, []faults{
		{"val it = let val f = fn x => x + x in §f 1.0 end", api.EApp, api.ErrUnify},
		{"val it = #\"a\" §+ #\"b\"", api.EApp, api.ErrClass},
		{"val it = true §< false", api.EApp, api.ErrClass},
		{"val it = \"a\" §- \"b\"", api.EApp, api.ErrClass},
		{"val r = ref (fn x => x + x) val s = r §:= (fn x => x + 1.0)", api.EApp, api.ErrUnify}, // settled at the end of the first one
		{"val it = fn {a, b} => (a + b §= 1.0)", api.EApp, api.ErrEquality},
	})
}
