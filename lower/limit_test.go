package lower

import (
	"fmt"
	"math/rand"
	"strconv"
	"strings"
	"testing"

	"kiln/api"
	"kiln/lambda"
)

// many is a text for each number from 0 on, in which # is the number and @ the next one.
func many(n int, text string) string {
	var b strings.Builder
	for i := range n {
		b.WriteString(strings.ReplaceAll(strings.ReplaceAll(text, "#", strconv.Itoa(i)), "@", strconv.Itoa(i+1)) + " ")
	}
	return b.String()
}

// mostSafe is up to how many nodes and parts Lower is never ErrMany.
const mostSafe = 4096

// deep is a signature of a structure within a structure, and so on, with an int x in the innermost one.
func deep(n int) string {
	s := "signature G0 = sig val x : int end "
	for i := 1; n > 0; i++ {
		k := min(n, 300)
		s += fmt.Sprintf("signature G%d = %sG%d%s ", i, strings.Repeat("sig structure A : ", k), i-1, strings.Repeat(" end", k))
		n -= k
	}
	return s
}

// P12.2: long paths at many places are not too many nodes.
func TestLongPaths(t *testing.T) {
	t.Parallel()
	const levels, places = 550, 500
	x := strings.Repeat("A.", levels) + "x"
	text := deep(levels) + "functor F (X : G" + strconv.Itoa((levels+299)/300) + ") = let structure B0 = X " + many(places-1, "and B@ = X")
	for from := 0; from < places; from += 250 {
		var l []string
		for i := range 250 {
			l = append(l, fmt.Sprintf("B%d.%s", from+i, x))
		}
		text += "val _ = (" + strings.Join(l, ", ") + ") "
	}
	l := unitsOf(t, text+"in struct end end")
	if n := size(l); n > mostSafe || levels*places < api.MaxNodes { // a node for each field on each way would be too many
		t.Fatalf("%d nodes and parts", n)
	}
	if p := lowers(t, l); len(p.Nodes) > 8*size(l) {
		t.Errorf("%d nodes of %d", len(p.Nodes), size(l))
	}
	does(t, l, "done")
}

// P12.2: along long paths and short ones a program goes where they lead.
func TestPaths(t *testing.T) {
	s := "structure S0 = struct val n = 0 end "
	for i := 1; i <= 40; i++ {
		s += fmt.Sprintf("structure S%d = struct val a = ~1 structure B = struct val n = ~2 end structure S = S%d val n = %d structure T = struct end end ", i, i-1, i)
	}
	path := "S40"
	for i := 40; i > 0; i-- {
		s += fmt.Sprintf("val %d = %s.n val ~1 = %s.a val ~2 = %s.B.n ", i, path, path, path)
		path += ".S"
	}
	does(t, unitsOf(t, s+"val 0 = "+path+".n"), "done")
}

// P12.2: paths of few structures, each with many fields, and of many of these.
func TestWidePaths(t *testing.T) {
	for _, levels := range []int{1, 2, 3, 4, 20} {
		s := "structure S0 = struct val x = 0 end "
		path := ""
		for i := range levels {
			s += fmt.Sprintf("structure S%d = struct %s structure A = struct end structure B = S%d structure C = struct end end ", i+1, many([]int{254, 255, 300, 509, 1300}[i%5], "val v# = #"), i)
			path += ".B"
		}
		s += fmt.Sprintf("val 0 = S%d%s.x ", levels, path)
		for i := range levels {
			up := strings.Repeat(".B", levels-1-i)
			s += fmt.Sprintf("val 253 = S%d%s.v253 val 0 = S%d%s.v0 ", levels, up, levels, up)
		}
		does(t, unitsOf(t, s), "done")
	}
}

// P12.2: long paths of which no two begin alike.
func TestUnlikePaths(t *testing.T) {
	r := rand.New(rand.NewSource(1))
	const levels = 150
	s := "structure S0 = struct val x = 0 end "
	for i := range levels {
		s += fmt.Sprintf("structure S%d = struct structure A = S%d structure B = S%d end ", i+1, i, i)
	}
	var fields []string
	for i := range 200 {
		var path strings.Builder
		for range levels {
			path.WriteString([]string{".A", ".B"}[r.Intn(2)])
		}
		fields = append(fields, fmt.Sprintf("l%d = S%d%s.x", i, levels, path.String()))
	}
	s += "val _ = {" + strings.Join(fields, ", ") + "} val _ = {" + strings.Join(fields, ", ") + "}"
	l := unitsOf(t, s)
	if size(l) > mostSafe {
		t.Fatal(size(l))
	}
	does(t, l, "done")
	if p := lowers(t, l); len(p.Nodes) > 16*size(l) {
		t.Errorf("%d nodes of %d", len(p.Nodes), size(l))
	}
}

// P12.2: structures of more fields than a tuple of the small language has.
func TestWideStructures(t *testing.T) {
	t.Parallel()
	for _, n := range []int{1, 2, 99, 254, 255, 256, 257, 509, 510, 511, 512, 1023, 1024, 1025, 1500} {
		wide := "structure S = struct val " + many(n-1, "(x# as") + "x" + strconv.Itoa(n-1) + strings.Repeat(")", n-1) + " = 1 end "
		var b strings.Builder
		for i := range n { // x0, x1, x10: the fields are in another order than the names are bound
			fmt.Fprintf(&b, "val x%d = %d ", i, i)
		}
		text := "structure S = struct " + b.String() + "end "
		for _, i := range []int{0, n / 3, n / 2, n - 1} {
			text += fmt.Sprintf("val %d = S.x%d ", i, i)
		}
		if n < 100 { // no tree is much deeper
			does(t, unitsOf(t, wide+"val 1 = S.x0"), "done")
		}
		does(t, unitsOf(t, text), "done")
		does(t, unitsOf(t, text+"structure T = struct open S val a = S.x0 end structure U : sig val x0 : int val a : int end = T val 0 = U.a val 0 = U.x0 structure V = struct structure W = T end val 0 = V.W.x0"), "done")
	}
	n := 1300
	l := unitsOf(t, "structure S = struct exception X0 "+many(n, "exception X@ = X0")+"end val 1 = (raise S.X0) handle S.X"+strconv.Itoa(n)+" => 1")
	does(t, l, "done")
}

// P12.2: records of as many labels as there may be.
func TestWideRecords(t *testing.T) {
	for _, n := range []int{100, 254, 255, 256} {
		fields := strings.TrimSuffix(many(n, "l# = #,"), ", ")
		text := "val r = {" + fields + "} val {" + fields + "} = r val true = r = r val false = r = {" + strings.Replace(fields, fmt.Sprintf("l%d = %d", n-1, n-1), fmt.Sprintf("l%d = 0", n-1), 1) + "} "
		text += fmt.Sprintf("val %d = #l%d r val {l%d = x, ...} = r val %d = x ", n-1, n-1, n-2, n-2)
		does(t, unitsOf(t, text), "done")
	}
}

// P12.2: programs of 4096 nodes and parts, of each kind that there is, are not too many nodes.
func TestNeverMany(t *testing.T) {
	t.Parallel()
	for name, text := range map[string]string{
		"constants":         "fun f 0 = 0 " + many(1000, "| f @ = #") + "val 999 = f 1000",
		"strings":           "fun f \"\" = 0 " + many(1000, "| f \"@\" = #") + "val 999 = f \"1000\"",
		"other rules":       "fun f (0, y) = 0 " + many(500, "| f (@, #) = #") + "val 499 = f (500, 499)",
		"lists":             "val l = [" + strings.TrimSuffix(many(660, "#,"), ", ") + "]",
		"list patterns":     "fun f nil = 0 " + many(48, "| f [x, @, y, #, z, #, w, @] = #") + "| f _ = 1",
		"constructors":      "datatype t = T0 of int " + many(400, "| T@ of int") + "fun f (T0 n) = n " + many(400, "| f (T@ 0) = #") + "| f _ = 1 val 1 = f (T399 1)",
		"records":           many(150, "val {a = {b, c = (x, y)}, ...} = {d = 1, a = {c = (1, 2), b = 3}}"),
		"exceptions":        many(250, "exception E# of int") + "val x = (raise E3 1) handle " + strings.Join(strings.Fields(many(250, "E#(#)=>1|")), " ") + " E3 n => n",
		"handlers":          "fun f 0 = 0 | f n = " + strings.Repeat("(1 + ", 200) + "f (n - 1)" + strings.Repeat(" handle Div => 1 | Match => 2)", 200) + " val 0 = f 0",
		"exceptions again":  "exception E " + many(800, "exception E = E") + "val 1 = (raise E) handle E => 1",
		"primitives":        many(250, "val p# = op + : int * int -> int") + "val 3 = p0 (1, 2)",
		"applications":      "val x = " + strings.Repeat("1 + (", 150) + "0" + strings.Repeat(")", 150) + " val 150 = x",
		"functions":         many(400, "val f# = fn x => fn y => x") + "val 1 = f0 1 2",
		"recursive":         "fun g 0 = 0 " + many(230, "and f# 0 = 0 | f# n = f# (n - 1)") + "val 0 = f229 3",
		"parts":             "structure S = struct " + many(400, "val x# = #") + "end structure T : sig " + many(400, "val x# : int") + "end = S val 7 = T.x7",
		"sub parts":         "structure S = struct " + many(150, "structure A# = struct val x = # val y = # end") + "end structure T :> sig " + many(150, "structure A# : sig val y : int end") + "end = S val 7 = T.A7.y",
		"constructor parts": "datatype t = T of int " + many(100, "| T# of int") + "signature G = sig " + many(100, "val T# : int -> t") + "end " + many(9, "structure S# : G = struct datatype t = datatype t end") + "val T7 3 = S8.T7 3",
		"functors":          "functor F (X : sig val x : int end) = struct val x = X.x + 1 end structure A0 = struct val x = 0 end " + many(400, "structure A@ = F (A#)") + "val 400 = A400.x",
		"locals":            many(170, "local val a = # in val b# = a end local in end open Prim type t = int"),
		"whiles":            many(60, "val r = ref 0 val _ = while !r < 2 do r := !r + 1") + "val ref 2 = r",
	} {
		l := unitsOf(t, text)
		p := lowers(t, l)
		if n := len(p.Nodes); size(l) > mostSafe || n > 2*size(l) || unfolded(p) > 4*size(l) {
			t.Errorf("%s: %d nodes, %d written out, of %d nodes and parts", name, n, unfolded(p), size(l))
		}
		o, _ := Run(l, nil, api.MaxRun)
		if o.Status != api.Done {
			t.Errorf("%s: %s", name, showOutcome(o))
		}
		held(t, l, lowers(t, l), nil, api.MaxRun)
	}
}

// P12.2: too many nodes: ErrMany, and nothing else is told.
func TestMany(t *testing.T) {
	t.Parallel()
	text := many(50000, "val _ = 1")
	var texts []string
	for len(texts) < 7 {
		l := unitsOf(t, append(texts, text)...)
		texts = append(texts, text)
		p, e := Lower(l)
		if e == api.ErrMany {
			if len(p.Nodes) != 0 || p.Root != 0 || len(texts) < 3 {
				t.Errorf("%d nodes, %d with %d texts", len(p.Nodes), p.Root, len(texts))
			}
			l[0].Notes = l[0].Notes[1:]
			if _, e := Lower(l); e != api.ErrUnit {
				t.Errorf("of what is no unit, too: %d", e)
			}
			return
		}
		if e != api.OK || lambda.Check(p) != api.OK || len(p.Nodes) > api.MaxNodes {
			t.Fatalf("%d of %d nodes", e, len(p.Nodes))
		}
	}
	t.Error("never too many")
}

// P12.2: up to the limit there is a program, above it there is none.
func TestLimit(t *testing.T) {
	t.Parallel()
	text := many(40000, "val _ = 1")
	ahead := unitsOf(t, text, text, text)
	last := 0
	for from, to := 0, 20000; from < to; {
		n := (from + to) / 2
		p, e := Lower(append(ahead[:3:3], unitsOf(t, many(n, "val _ = 1"))...))
		switch {
		case e == api.ErrMany:
			to = n
		case e != api.OK || lambda.Check(p) != api.OK:
			t.Fatalf("%d, %d", e, lambda.Check(p))
		default:
			from, last = n+1, len(p.Nodes)
		}
	}
	if last < api.MaxNodes-1 || last > api.MaxNodes {
		t.Errorf("at most %d nodes", last)
	}
}

// P12.1, P12.2: what is nested deeply.
func TestNested(t *testing.T) {
	t.Parallel()
	const n = 10000
	list := "[" + strings.TrimSuffix(strings.Repeat("1, ", n), ", ") + "]"
	for _, text := range []string{
		"val l = " + list + " fun sum (nil, n) = n | sum (x :: l, n) = sum (l, n + x) val _ = Prim.print (Prim.intText (sum (l, 0)))",
		"val l = " + list + " val _ = case l of " + list + " => Prim.print \"10000\" | _ => ()",
		"val _ = (" + strings.Repeat("1; ", n) + "Prim.print \"10000\")",
		"fun f 0 = 0 | f n = 1 + f (n - 1) val _ = Prim.print (Prim.intText (f " + strconv.Itoa(n) + "))",
		"fun f 0 = raise Div | f n = f (n - 1) handle Match => 0 val _ = f " + strconv.Itoa(n) + " handle Div => (Prim.print \"10000\"; 1)",
		"fun mk 0 = nil | mk n = n :: mk (n - 1) val l = mk 5000 val _ = if l = mk 5000 then Prim.print \"10000\" else ()",
		many(n, "val x# = #") + "val _ = Prim.print (Prim.intText (x9999 + 1))",
	} {
		l := unitsOf(t, text)
		if o, e := Run(l, nil, api.MaxRun); e != api.OK || showOutcome(o) != `"10000" done` {
			t.Errorf("%.60s: %s, %d, %d steps", text, showOutcome(o), e, o.Steps)
		}
		if o, e := lambda.Run(lowers(t, l), nil, 1<<24); e != api.OK || showOutcome(o) != `"10000" done` {
			t.Errorf("%.60s: lowered %s, %d", text, showOutcome(o), e)
		}
	}
}
