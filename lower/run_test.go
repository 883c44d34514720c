package lower

import "testing"

// counted is a text, what it does, and in how many steps.
type counted struct {
	text, want string
	steps      int
}

func takeAll(t *testing.T, l []counted) {
	t.Helper()
	for _, c := range l {
		takes(t, c.text, c.want, c.steps)
	}
}

// P12.1: each kind of expression, step by step.
func TestExpressions(t *testing.T) {
	takeAll(t, []counted{
		{"", "done", 0},
		{"val x = 1", "done", 3}, // DVal, NInt, PName
		{"val x = ~0x1F", "done", 3},
		{"val x = 1.5", "done", 3},
		{"val x = #\"a\"", "done", 3},
		{"val x = \"a\"", "done", 3},
		{"val x = (1 : int)", "done", 4},                                                // the ETyped, not its type
		{"val x = ()", "done", 3},                                                       // the ERecord
		{"val x = (1, 2)", "done", 5},                                                   // the ERecord, not its NFields
		{"val x = {b = 1, a = 2}", "done", 5},                                           //
		{"val x = true", "done", 3},                                                     //
		{"val x = op ::", "done", 3},                                                    //
		{"val x = fn y => y", "done", 3},                                                // the EFn, not its rules
		{"val x = 1 :: nil", "done", 7},                                                 // DVal, EApp, EName, ERecord, NInt, EName, PName
		{"val x = (fn y => y) 1", "done", 7},                                            // DVal, EApp, EFn, NInt, PName y, EName y, PName x
		{"val x = 1 + 2", "done", 7},                                                    //
		{"val x = let in 1 end", "done", 4},                                             // the ELet, not its NDecs
		{"val x = let val y = 1 in y end", "done", 7},                                   // DVal, ELet, DVal, NInt, PName y, EName y, PName x
		{"val x = ((1, 2) : int * int)", "done", 6},                                     //
		{"val x = [1, 2]", "done", 11},                                                  // DVal, EApp, EName, ERecord, NInt, EApp, EName, ERecord, NInt, EName nil, PName
		{"val x = if true then 1 else 2", "done", 7},                                    // DVal, EApp, EFn, EName, PName true, NInt, PName x
		{"val x = if false then 1 else 2", "done", 8},                                   // PName true, PName false
		{"val x = #a {a = 1, b = 2}", "done", 10},                                       // DVal, EApp, EFn, ERecord, NInt, NInt, PRecord, PName, EName, PName x
		{"val x = (1; 2; 3)", "done", 11},                                               // DVal; EApp, EFn, NInt, PWild; EApp, EFn, NInt, PWild; NInt, PName
		{"val f = Prim.print val x = f \"a\"", `"a" done`, 8},                           //
		{"val x = ref 1 val y = !x", "done", 10},                                        // DVal, EApp, EName, NInt, PName x; DVal, EApp, EName, EName, PName y
		{"fun f x = f x", "done", 1},                                                    // the DRec alone
		{"fun f x y = 1 val x = f 2 3", "done", 20},                                     // DRec; DVal, EApp, EApp, EName, NInt, PName, EFn, NInt, PName; EApp, EFn, ERecord, EName, EName, PRecord, PName, PName, NInt; PName x
		{"fun f 0 = 1 | f n = f (n - 1) val x = f 1", "done", 17},                       // DRec; DVal, EApp, EName, NInt; NInt 0, PName n; EApp, EName, EApp, EName, ERecord, EName, NInt; NInt 0, NInt; PName x
		{"val x = (1, (2, 3)) = (1, (2, 3))", "done", 19},                               // DVal, EApp, EName, ERecord; twice ERecord, NInt, ERecord, NInt, NInt; four pairs more; PName
		{"val x = (1, (2, 3)) = (1, (4, 3))", "done", 18},                               // the last pair is not looked at
		{"val x = 1 = 1", "done", 7},                                                    //
		{"val x = let val r = ref 0 in r := !r + 1; !r end", "done", 25},                // DVal, ELet; DVal, EApp, EName, NInt, PName r; EApp, EFn, EApp, EName, ERecord, EName r, EApp, EName, ERecord, EApp, EName, EName, NInt; PWild; EApp, EName, EName; PName x
		{"val x = let fun f x = x in f end 1", "done", 9},                               // DVal, EApp, ELet, DRec, EName f, NInt; PName x, EName x; PName x
		{"val x = (fn {a, b = {c, ...}} => c) {b = {c = 1, d = 2}, a = 3}", "done", 14}, // DVal, EApp, EFn, ERecord, ERecord, NInt, NInt, NInt; PRecord, PName a, PRecord, PName c; EName c; PName x
	})
}

// P12.1: exceptions that are raised, handled, and not, step by step.
func TestExceptions(t *testing.T) {
	takeAll(t, []counted{
		{"val x = raise Div", "uncaught Div", 3},                                                        // DVal, ERaise, EName
		{"val x = 1 handle Div => 2", "done", 4},                                                        // the EHandle, not its rules
		{"val x = (raise Div) handle Div => 2", "done", 7},                                              // DVal, EHandle, ERaise, EName, PName Div, NInt, PName x
		{"val x = (raise Div) handle Bind => 1 | Div => 2", "done", 8},                                  //
		{"val x = (raise Div) handle Bind => 1", "uncaught Div", 5},                                     // it is raised again, in no step
		{"val x = ((raise Div) handle Bind => 1) handle _ => 2", "done", 9},                             // DVal, EHandle, EHandle, ERaise, EName, PName Bind, PWild, NInt, PName x
		{"val x = (raise Div) handle e => raise e", "uncaught Div", 7},                                  // DVal, EHandle, ERaise, EName, PName e, ERaise, EName
		{"val x = (1 handle Div => 2) + (raise Match)", "uncaught Match", 8},                            // the handler is gone: DVal, EApp, EName, ERecord, EHandle, NInt, ERaise, EName
		{"val x = 1 div 0", "uncaught Div", 6},                                                          // DVal, EApp, EName, ERecord, NInt, NInt
		{"val f = fn 0 => 1 val y = f 2", "uncaught Match", 8},                                          // DVal, EFn, PName; DVal, EApp, EName, NInt, NInt 0
		{"val 0 = 1", "uncaught Bind", 3},                                                               //
		{"val (0, y) = (1, 2)", "uncaught Bind", 6},                                                     // DVal, ERecord, NInt, NInt, PRecord, NInt 0
		{"exception E", "done", 1},                                                                      //
		{"exception E of int val x = (raise E 1) handle E y => y", "done", 11},                          // DExn; DVal, EHandle, ERaise, EApp, EName, NInt, PApp, PName y, EName y, PName x
		{"exception E of int val x = (raise E 1) handle E 2 => 3", "uncaught E", 9},                     // DExn; DVal, EHandle, ERaise, EApp, EName, NInt, PApp, NInt 2
		{"exception E val f = E val x = (raise f) handle E => 1", "done", 11},                           // DExn; DVal, EName, PName f; DVal, EHandle, ERaise, EName f, PName E, NInt, PName x
		{"exception E exception F = E val x = (raise E) handle F => 1", "done", 9},                      // DExn, DExn; DVal, EHandle, ERaise, EName, PName F, NInt, PName x
		{"exception E val f = fn x => raise E exception E val x = f 1 handle E => 2", "uncaught E", 14}, // another E: DExn; DVal, EFn, PName; DExn; DVal, EHandle, EApp, EName, NInt; PName x, ERaise, EName; PName E
		{"val x = Prim.chr 256", "uncaught Chr", 4},                                                     //
		{"val x = Prim.round (0.0 / 0.0)", "uncaught Domain", 8},                                        //
		{"val x = 4611686018427387903 + 1", "uncaught Overflow", 6},                                     //
		{"val x = Prim.array (~1, 0)", "uncaught Size", 6},                                              //
		{"val x = Prim.sub (\"\", 0)", "uncaught Subscript", 6},                                         //
		{"exception E of string val x = raise E \"a\"", "uncaught E", 6},                                //
		{"exception E exception F = E val x = raise F", "uncaught E", 5},
		{"exception E exception G and F = E val x = raise F", "uncaught E", 5},
		{"exception D = Div val x = 1 div 0 handle D => 2", "done", 11},
		{"val x = (raise Div) handle Div => 1 div 0", "uncaught Div", 10},
		{"exception E val x = (raise E) handle E => raise E", "uncaught E", 8},
		{"val x = raise Prim.exn \"a\"", "uncaught a", 5},
		{"val f = Prim.exn val e = f \"a\" val x = (raise e) handle Div => 1 | _ => 2", "done", 16},
		{"val x = raise raise Div", "uncaught Div", 4},                                                      //
		{"val x = raise ((raise Div) handle Div => Match)", "uncaught Match", 7},                            // DVal, ERaise, EHandle, ERaise, EName, PName Div, EName
		{"fun f 0 = raise Div | f n = f (n - 1) handle Match => 0 val x = f 2 handle Div => 7", "done", 34}, // each handler on the way is asked
	})
}

// P12.1: each kind of pattern, step by step.
func TestPatterns(t *testing.T) {
	data := "datatype t = A | B of int | C of t * t " // a DData: 1 step
	takeAll(t, []counted{
		{"val _ = 1", "done", 3},
		{"val 1 = 1", "done", 3},
		{"val #\"a\" = #\"a\"", "done", 3},
		{"val \"a\" = \"a\"", "done", 3},
		{"val 1 = 2", "uncaught Bind", 3},
		{"val #\"a\" = #\"b\"", "uncaught Bind", 3},
		{"val \"a\" = \"b\"", "uncaught Bind", 3},
		{"val () = ()", "done", 3},
		{"val (x : int) = 1", "done", 4},             // the PTyped, not its type
		{"val (x as y) = 1", "done", 4},              // the PAs, and the PName
		{"val (x : int as 1) = 1", "done", 5},        // PAs, PTyped, NInt
		{"val {a, ...} = {b = 1, a = 2}", "done", 6}, // the PRecord, neither its NFields nor its PDots
		{"val {b, a} = {a = 1, b = 2}", "done", 7},   //
		{"val (1, 2) = (1, 3)", "uncaught Bind", 7},  //
		{"val (1, 2) = (2, 2)", "uncaught Bind", 6},  // from the left, as long as they match
		{"val (ref x) = ref 1", "done", 6},           // DVal, EApp, EName, NInt, PApp, PName x: the name ref counts none
		{"val (ref 1) = ref 2", "uncaught Bind", 6},  //
		{data + "val A = A", "done", 4},              // DData, DVal, EName, PName
		{data + "val A = B 1", "uncaught Bind", 6},   // DData, DVal, EApp, EName, NInt, PName
		{data + "val B x = B 1", "done", 7},          // PApp, PName x
		{data + "val B x = A", "uncaught Bind", 4},   // DData, DVal, EName, PApp
		{data + "val B x = C (A, A)", "uncaught Bind", 8},
		{data + "val C (A, x) = C (A, B 1)", "done", 13}, // DData, DVal, EApp, EName, ERecord, EName, EApp, EName, NInt; PApp, PRecord, PName A, PName x
		{"val [x] = [1]", "done", 10},                    // DVal, EApp, EName, ERecord, NInt, EName; PApp, PRecord, PName x, PName nil
		{"val (x, 1) = (1, 2) val y = x", "uncaught Bind", 7},
		{"exception E val f = fn E => 1 | _ => 2 val x = f E", "done", 11},   // DExn; DVal, EFn, PName; DVal, EApp, EName, EName; PName E, NInt; PName x
		{"exception E val f = fn E => 1 | _ => 2 val x = f Div", "done", 12}, //
		{"exception E of int val f = fn E 1 => 1 | E n => n | _ => 2 val x = f (E 3)", "done", 16},
		{"fun f {1 = 0, ...} = 0 | f (x, y) = y val z = f (1, 2)", "done", 14}, // DRec; DVal, EApp, EName, ERecord, NInt, NInt; PRecord, NInt 0; PRecord, PName, PName; EName; PName z
	})
}

// P12.1: each kind of declaration, step by step.
func TestDeclarations(t *testing.T) {
	takeAll(t, []counted{
		{"type t = int", "done", 1},
		{"datatype t = A | B of t", "done", 1},
		{"datatype t = datatype bool", "done", 1},
		{"exception E and F of int and G = Div", "done", 1},
		{"infix 4 ++", "done", 0}, // nothing is left of it
		{"signature G = sig val x : int end", "done", 1},
		{"local in end", "done", 1},
		{"local val x = 1 in val y = x end val z = y", "done", 10},                     // DLocal, DVal, NInt, PName, DVal, EName, PName; DVal, EName, PName
		{"val x = 1 and y = 2", "done", 5},                                             // DVal, NInt, NInt, PName, PName
		{"val x = 1 and 0 = 2 and z = 3", "uncaught Bind", 6},                          // all expressions, then patterns
		{"val x = 1 and y = 1 div 0 and z = 3", "uncaught Div", 7},                     // DVal, NInt; EApp, EName, ERecord, NInt, NInt
		{"val x = 1 val x = x", "done", 6},                                             //
		{"val x = 1 val x = 2 and y = x val 1 = y", "done", 11},                        // y is the first x
		{"fun f 0 = 1 | f n = g (n - 1) and g n = f n val x = f 1", "done", 21},        // DRec; DVal, EApp, EName, NInt; NInt 0, PName n, EApp, EName, EApp, EName, ERecord, EName, NInt; PName n, EApp, EName, EName; NInt 0, NInt; PName x
		{"val f = fn x => 1 val rec f = fn 0 => 2 | n => f 0 val 2 = f 5", "done", 16}, // a rec's own name counts within it
		{"val f = fn x => 1 val f = fn 0 => 2 | n => f 0 val 1 = f 5", "done", 18},     // another name's
		{"val x = 1 fun f () = x val x = 2 val 1 = f ()", "done", 14},                  // a name that is made anew leaves what was
		{"local structure A = struct val x = 1 end in structure B = A end val 1 = B.x", "done", 12},
		{"local val x = 1 in exception E fun f y = x end val x = (raise E) handle E => f 2", "done", 17},
		{"structure S = struct end open S", "done", 3}, // DStr, SStruct, DOpen; not its SName
		{"functor F (X : sig end) = struct val _ = Prim.print \"a\" end", "done", 1},
	})
}

// P12.1: each kind of structure, and parts, step by step.
func TestStructures(t *testing.T) {
	s := "structure S = struct val y = 2 val x = 1 end " // DStr, SStruct, twice DVal, NInt, PName, two parts: 10
	takeAll(t, []counted{
		{"structure S = struct end", "done", 2}, // DStr, SStruct
		{s, "done", 10},
		{s + "structure T = S", "done", 12},                                   // DStr, SName
		{s + "val 1 = S.x", "done", 13},                                       //
		{s + "structure T : sig val x : int end = S val 1 = T.x", "done", 17}, // DStr, STrans, SName, a part; DVal, EName, NInt
		{s + "structure T :> sig val x : int val y : int end = S val 2 = T.y", "done", 18},
		{s + "structure T : sig end = S", "done", 13},
		{"structure S = struct structure T = struct val x = 1 end end val 1 = S.T.x", "done", 12}, // DStr, SStruct; DStr, SStruct, DVal, NInt, PName, a part; a part; DVal, EName, NInt
		{"structure S : sig structure T : sig val x : int end end = struct structure T = struct val w = 2 val x = 1 end end val 1 = S.T.x", "done", 19}, // T's part, and the part in it
		{"structure S : sig structure T : sig end end = struct structure T = struct val x = 1 end end", "done", 11},                                     // a part without Sub is one
		{"structure S = let val x = 1 in struct val y = x end end val 1 = S.y", "done", 13},                                                             // DStr, SLet, DVal, NInt, PName, SStruct, DVal, EName, PName, a part; DVal, EName, NInt
		{"structure S = struct exception E end val x = (raise S.E) handle S.E => 1", "done", 11},                                                        // DStr, SStruct, DExn, a part; DVal, EHandle, ERaise, EName, PName, NInt, PName
		{"structure S : sig val E : int -> exn end = struct exception E of int end val x = (raise S.E 1) handle _ => 1", "done", 15},
		{"structure S : sig val E : exn end = struct exception E end val x = (raise S.E) handle _ => 1", "done", 13},
		{"structure S : sig datatype t = A | B of int val f : int -> t val a : t end = struct datatype t = A | B of int val f = B val a = A end val S.B 1 = S.f 1", "done", 20},
		{"structure S : sig val A : bool val p : string -> unit end = struct val A = true val p = Prim.print end val _ = S.p \"a\"", `"a" done`, 18},
		{"structure S : sig val size : string -> int end = Prim val 1 = S.size \"a\"", "done", 9}, // DStr, STrans, SName, a part; DVal, EApp, EName, NString, NInt. (Prim has no fields.)
		{"functor F (X : sig val x : int end) = struct val y = X.x end structure T = F (struct val x = 1 val z = 2 end) val 1 = T.y", "done", 21},
	})
}
