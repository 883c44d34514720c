package cps

import (
	"math/rand"
	"reflect"
	"slices"
	"testing"

	"kiln/api"
	"kiln/derive"
	"kiln/lambda"
	"kiln/lex"
	"kiln/lower"
	"kiln/modules"
	"kiln/tree"
)

// lowered is a text of Standard ML as a program of the small language.
func lowered(t *testing.T, text string) api.Lambda {
	t.Helper()
	l, _, _, e := lex.Scan(text)
	if e != api.OK {
		t.Fatal(e)
	}
	nodes, root, _, _, e := tree.Parse(l)
	if e != api.OK {
		t.Fatal(e)
	}
	nodes, root, _, _, e = derive.Derive(nodes, root)
	if e != api.OK {
		t.Fatal(e)
	}
	c := modules.New()
	if line, column, e := c.Program(nodes, root); e != api.OK {
		t.Fatal(line, column, e)
	}
	u := api.Unit{Nodes: nodes, Root: root, Notes: c.Elab().Notes()}
	for i := range nodes {
		u.Parts = append(u.Parts, c.Parts(i))
	}
	p, e := lower.Lower([]api.Unit{u})
	if e != api.OK {
		t.Fatal(e)
	}
	return p
}

// P13.4: programs of texts do what they did.
func TestTexts(t *testing.T) {
	t.Parallel()
	for text, want := range map[string]string{
		`val _ = Prim.print "hi"`:                                      `"hi" done`,
		`val x = 1 div 0`:                                              "uncaught Div",
		`val x = 4611686018427387903 + 1`:                              "uncaught Overflow",
		`val x = 1.0 / 0.0 val _ = Prim.print (Prim.realText (x - x))`: `"nan" done`,
		`exception E val _ = (raise E) handle E => Prim.print "e"`:     `"e" done`,
		`exception E of int val _ = (raise E 5) handle E 4 => () | E n => Prim.print (Prim.intText n)`:                                                                                 `"5" done`,
		`exception My of int val _ = raise My 3`:                                                                                                                                       "uncaught My",
		`fun fac 0 = 1 | fac n = n * fac (n - 1) val _ = Prim.print (Prim.intText (fac 15))`:                                                                                           `"1307674368000" done`,
		`fun even 0 = true | even n = odd (n - 1) and odd 0 = false | odd n = even (n - 1) val _ = if even 51 then Prim.print "even" else Prim.print "odd"`:                            `"odd" done`,
		`fun map f nil = nil | map f (x :: l) = f x :: map f l fun show nil = () | show (x :: l) = (Prim.print (Prim.intText x); show l) val _ = show (map (fn x => x * x) [1, 2, 3])`: `"1" "4" "9" done`,
		`fun loop () = let val s = Prim.input () in if s = "" then () else (Prim.print s; loop ()) end val _ = loop ()`:                                                                `"12\n" "\n" "3.5 x\n" done`,
		`datatype t = L | N of t * int * t fun put (x, L) = N (L, x, L) | put (x, t as N (a, y, b)) = if x < y then N (put (x, a), y, b) else if y < x then N (a, y, put (x, b)) else t fun say L = () | say (N (a, x, b)) = (say a; Prim.print (Prim.intText x); say b) val _ = say (put (3, put (1, put (2, put (3, L)))))`: `"1" "2" "3" done`,
		`val r = Prim.ref 3 val _ = while Prim.! r > 0 do (Prim.print (Prim.intText (Prim.! r)); Prim.:= (r, Prim.! r - 1))`:                                                                               `"3" "2" "1" done`,
		`functor F (X : sig val n : int end) = struct fun f x = x + X.n end structure A = F (struct val n = 5 end) structure B = F (struct val n = 7 end) val _ = Prim.print (Prim.intText (A.f (B.f 1)))`: `"13" done`,
		`fun f 0 = raise Match | f n = (f (n - 1) handle Div => 1) val _ = f 50 handle Match => (Prim.print "m"; 2)`:                                                                                       `"m" done`,
		`fun f n = f (n + 1) val _ = f 1`:              "out of fuel",
		`fun f n = 1 + f (n + 1) val _ = f 1`:          "out of fuel",
		`val f = fn "a" => 1 | "b" => 2 val _ = f "c"`: "uncaught Match",
	} {
		p := lowered(t, text)
		last, q := held(t, text, p, lines(), 2000)
		if showOutcome(last) != want {
			t.Errorf("%s: %s", text, showOutcome(last))
		}
		heldRun(t, 0, q, 5000)
		if len(q.Nodes) > 3*len(p.Nodes)+50 {
			t.Errorf("%s: %d nodes of %d", text, len(q.Nodes), len(p.Nodes))
		}
	}
}

// isIdle tells whether a function does nothing but call another one with its parameters.
func isIdle(l []api.Flow, f api.Flow) bool {
	body := l[f.Args[0]]
	if f.Kind != api.JFn || body.Kind != api.JCall || len(body.Args) != len(f.Vars)+1 {
		return false
	}
	for i, v := range f.Vars {
		if a := l[body.Args[1+i]]; a.Kind != api.JVar || a.N != v {
			return false
		}
	}
	return true
}

// P13.4: where a function's last step is a call, in a handler, a branch or behind a let, nothing waits for it but what waited for the function.
func TestLastCalls(t *testing.T) {
	d := &pen{}
	call := func() int { return d.app(d.v(20), d.v(21)) }
	body := d.choose([]api.Key{kInt(0), kInt(1), kInt(2), kInt(3), kInt(4)}, d.v(21), call(), d.let(22, d.i(1), call()), d.handle(d.raise(d.i(1)), 22, call()),
		d.fix([]int{23}, d.fn(24, d.v(24)), call()), d.choose([]api.Key{kInt(9)}, d.v(21), d.i(1), call()), d.let(22, d.fn(25, d.v(20)), call()))
	p := d.program(d.fix([]int{20}, d.fn(21, body), d.app(d.v(20), d.i(7))))
	q := converts(t, "last calls", p)
	for _, f := range q.Nodes {
		if f.Kind == api.JFn && isIdle(q.Nodes, f) {
			t.Errorf("%v", f)
		}
	}
	meets(t, "last calls", p, q, nil, 1000)

	for _, text := range []string{
		"fun f 0 = 0 | f n = f (n - 1) val _ = f 5",
		"fun f (x, y) = if x < y then f (x + 1, y) else if x = y then x else f (y, x) val _ = f (1, 5)",
		"fun f n = let val m = n - 1 in if m < 0 orelse m = 77 then 0 else (Prim.print \"\"; f m) end val _ = f 5",
		"fun f n = (if n > 0 then raise Match else 0) handle Match => f (n - 1) val _ = f 5",
		"val r = Prim.ref 3 val _ = while Prim.! r > 0 do Prim.:= (r, Prim.! r - 1)",
		"fun f nil = 0 | f [x] = f nil | f (x :: y :: l) = f (y :: l) val _ = f [1, 2, 3]",
		"fun f g n = case n of 0 => 0 | 1 => g n | _ => f g (n - 2) val _ = f (fn x => x) 5",
	} {
		q := converts(t, text, lowered(t, text))
		for _, f := range q.Nodes {
			if f.Kind == api.JFn && isIdle(q.Nodes, f) {
				t.Errorf("%s: %v", text, f)
			}
		}
	}
}

// P13.4, rule 1: of nodes at random, with their form and without, Convert says what lambda.Check does, or makes a program.
func TestConvertScraps(t *testing.T) {
	told := map[api.Errno]int{}
	for seed := range int64(3000) {
		r := rand.New(rand.NewSource(seed))
		d := &pen{}
		d.v(1)
		for range 3 + r.Intn(10) {
			heap(r, d)
			if r.Intn(12) == 0 {
				d.put(api.Term{Kind: api.TermKind(r.Intn(18) - 1), N: r.Intn(80) - 1, Int: int64(r.Uint64()), Bits: r.Uint64(), Vars: []int{r.Intn(5) - 1}[:r.Intn(2)], Keys: []api.Key{{Kind: api.KeyKind(r.Intn(5))}}[:r.Intn(2)], Args: []int{r.Intn(len(d.l)), r.Intn(len(d.l)), r.Intn(len(d.l) + 1)}[:r.Intn(4)]})
			}
		}
		for _, p := range []api.Lambda{d.program(len(d.l) - 1), d.whole(d.let(9, d.i(0), len(d.l)-1)), d.program(r.Intn(len(d.l)+2) - 1)} {
			want := lambda.Check(p)
			q, e := Convert(p)
			told[e]++
			if e != want && e != api.ErrMany || e == api.OK && Check(q) != api.OK || e != api.OK && (len(q.Nodes) != 0 || q.Root != 0) {
				t.Fatalf("seed %d: %d, %d of %d nodes; want %d", seed, e, Check(q), len(q.Nodes), want)
			}
		}
	}
	for _, e := range []api.Errno{api.OK, api.ErrTerm, api.ErrPrims, api.ErrFree} {
		if told[e] < 20 {
			t.Errorf("few are such: %v", told)
		}
	}
}

// P13.4: variables that a converted program binds are bound once each, no atom stands in the list twice, and what a kind does not name is zero: so that passes behind have little to do.
func TestPlain(t *testing.T) {
	for seed := range int64(100) {
		q, e := Convert(wild(seed))
		if e != api.OK {
			continue
		}
		var bound, named []int
		for _, f := range q.Nodes {
			plain := api.Flow{Kind: f.Kind, Args: f.Args}
			switch f.Kind {
			case api.JVar:
				plain.N = f.N
				named = append(named, f.N)
			case api.JTuple:
				plain.N = f.N
				bound = append(bound, f.N)
			case api.JCon, api.JField, api.JPrim:
				plain.N, plain.M = f.N, f.M
				bound = append(bound, f.N)
			case api.JFix, api.JFn:
				plain.Vars = f.Vars
				bound = append(bound, f.Vars...)
			case api.JCase:
				plain.Keys = slices.Clone(f.Keys)
				for i, k := range f.Keys {
					if k.Kind == api.KeyStr {
						plain.Keys[i].Int = 0
					} else {
						plain.Keys[i].Text = ""
					}
				}
			default:
				plain.Int, plain.Bits, plain.Text = f.Int, f.Bits, f.Text
			}
			if !reflect.DeepEqual(f, plain) {
				t.Fatalf("seed %d: %v", seed, f)
			}
		}
		for _, l := range [][]int{bound, named} {
			slices.Sort(l)
			if n := len(l); len(slices.Compact(l)) != n {
				t.Fatalf("seed %d: a variable is bound twice, or is two atoms", seed)
			}
		}
	}
}

// kinds counts a program's nodes of each kind.
func kinds(q api.Cps) map[api.FlowKind]int {
	n := map[api.FlowKind]int{}
	for _, f := range q.Nodes {
		n[f.Kind]++
	}
	return n
}

// P13.4: no more moves than it takes.
func TestFewMoves(t *testing.T) {
	d := &pen{}
	x := d.print("a")
	var l []int
	for range 200 {
		l = append(l, x)
	}
	n := kinds(converts(t, "one node at many places", d.program(d.seq(l...))))
	if n[api.JTuple] != 0 || n[api.JPrim] != 200 || n[api.JFix] != 0 || n[api.JHalt] != 1 {
		t.Errorf("%v", n)
	}
	d = &pen{}
	n = kinds(converts(t, "raise", d.program(d.raise(d.i(1)))))
	if n[api.JFail] != 1 || n[api.JFix] != 0 {
		t.Errorf("%v", n)
	}
	d = &pen{}
	n = kinds(converts(t, "a case of one", d.program(d.tuple(d.choose(nil, d.i(1), d.i(2)), d.i(3)))))
	if n[api.JCase] != 1 || n[api.JFix] != 0 || n[api.JTuple] != 1 {
		t.Errorf("%v", n)
	}
	d = &pen{}
	n = kinds(converts(t, "one code", d.whole(d.prim("chr", d.i(1)))))
	if n[api.JCase] != 0 || n[api.JTuple] != 1 || n[api.JFail] != 1 {
		t.Errorf("%v", n)
	}
	d = &pen{}
	var atoms []int
	for range 300 {
		atoms = append(atoms, d.i(1))
	}
	n = kinds(converts(t, "a wide tuple", d.program(d.tuple(atoms...))))
	if n[api.JTuple] != 1 || n[api.JHalt] != 1 {
		t.Errorf("%v", n)
	}
}

// FuzzPrograms holds programs at random against the model, and others against what they become.
func FuzzPrograms(f *testing.F) {
	for seed := range int64(5) {
		f.Add(seed, uint16(1000*seed))
	}
	f.Fuzz(func(t *testing.T, seed int64, fuel uint16) {
		heldRun(t, seed, wildFlow(seed), int(fuel)%4000)
		p := wild(seed)
		if _, e := Convert(p); e == api.OK {
			held(t, "wild", p, lines(), int(fuel)%1000)
		}
	})
}
