package lower

import (
	"math"
	"math/rand"
	"slices"
	"strings"
	"testing"

	"kiln/api"
	"kiln/lambda"
)

// sample is a text with everything there is, and short runs.
const sample = first + `
val (x as (y, 1), {a, ...}) = ((2, 1), {b = "s", a = #"c"}) and _ = 1.5
fun f 0 = raise E | f n = (f (n - 1) handle F m => m | E => n)
val l = [1, 2, 3] fun sum nil = 0 | sum (x :: l) = x + sum l
structure S :> sig exception X of int val v : int structure T : sig val w : int end val p : string -> unit val k : exn end =
  struct exception X of int val v = sum l val u = 1 structure T = struct val z = 0 val w = 2 end val p = Prim.print val k = X 2 end
functor G (P : sig val n : int exception Q structure R : sig end end) = let val m = P.n in struct val n = m + 1 exception Q = P.Q val r = ref n end end
structure A = G (struct val n = 3 exception Q structure R = struct val q = 1 end end)
local open A in val ref i = r val i2 = (raise Q) handle A.Q => i end
val t = Node (Mark {l = 1, r = "q"}, 2, Wrap (Only Leaf))
val d = case t of Node (Mark {l, ...}, 2, Wrap _) => l | _ => 0
val _ = (S.p (Prim.intText (f 3 + S.v + S.T.w + i2 + d + y)); raise S.k) handle S.X n => Prim.print (Prim.^ ("z", Prim.intText n))
val s = case "b" of "a" => 1 | "b" => 2 | _ => 3
val _ = while !A.r > 2 do A.r := !A.r - 1
val b = (raise G ("a", 1)) handle G (_, 2) => 1 | E => 2 | G (x, n) => n
`

// sampleUnits are the units of it, in two pieces.
func sampleUnits(t testing.TB) []api.Unit {
	t.Helper()
	cut := strings.Index(sample, "structure A")
	return unitsOf(t, sample[:cut], sample[cut:])
}

func TestSample(t *testing.T) {
	does(t, sampleUnits(t), `"16" "z2" done`)
}

// P12.1, P12.2: what is no unit; ErrUnit is told ahead of ErrArg; with an error nothing else is told.
func TestErrors(t *testing.T) {
	good := sampleUnits(t)
	turned := func(turn func(u *api.Unit)) []api.Unit {
		u := good[1]
		u.Nodes, u.Notes, u.Parts = slices.Clone(u.Nodes), slices.Clone(u.Notes), slices.Clone(u.Parts)
		turn(&u)
		return []api.Unit{good[0], u}
	}
	dec := slices.IndexFunc(good[1].Nodes, func(n api.Node) bool { return n.Kind == api.DVal })
	for name, l := range map[string][]api.Unit{
		"nothing":             {{}},
		"nothing behind":      {good[0], good[1], {}},
		"no root":             turned(func(u *api.Unit) { u.Root = -1 }),
		"a root behind all":   turned(func(u *api.Unit) { u.Root = len(u.Nodes) }),
		"a root that is none": turned(func(u *api.Unit) { u.Root = dec }),
		"an expression":       turned(func(u *api.Unit) { u.Root = 0 }),
		"a note too few":      turned(func(u *api.Unit) { u.Notes = u.Notes[1:] }),
		"a note too many":     turned(func(u *api.Unit) { u.Notes = append(u.Notes, api.Note{}) }),
		"no notes":            turned(func(u *api.Unit) { u.Notes = nil }),
		"parts too few":       turned(func(u *api.Unit) { u.Parts = u.Parts[1:] }),
		"parts too many":      turned(func(u *api.Unit) { u.Parts = append(u.Parts, nil) }),
		"no parts":            turned(func(u *api.Unit) { u.Parts = nil }),
		"a kid above":         turned(func(u *api.Unit) { u.Nodes[dec].Kids = []int{dec} }),
		"a derived form":      turned(func(u *api.Unit) { u.Nodes[u.Nodes[dec].Kids[0]-1] = api.Node{Kind: api.ETuple} }),
		"another kind":        turned(func(u *api.Unit) { u.Nodes[dec].Kind = api.NBind }),
		"no kind":             turned(func(u *api.Unit) { u.Nodes[dec].Kind = 7 }),
	} {
		for _, fuel := range []int{0, 100, api.MaxRun, api.MaxRun + 1, -1} {
			o, e := Run(l, lines(), fuel)
			if e != api.ErrUnit || len(o.Out) != 0 || o.Status != 0 || o.Exn != "" || o.Steps != 0 {
				t.Errorf("%s: Run with %d: %+v, %d", name, fuel, o, e)
			}
		}
		if p, e := Lower(l); e != api.ErrUnit || len(p.Nodes) != 0 || p.Root != 0 {
			t.Errorf("%s: Lower: %+v, %d", name, p, e)
		}
	}
	for _, l := range [][]api.Unit{nil, {}, good} {
		for _, fuel := range []int{-1, math.MinInt, api.MaxRun + 1, api.MaxFuel, math.MaxInt} {
			o, e := Run(l, lines(), fuel)
			if e != api.ErrArg || len(o.Out) != 0 || o.Status != 0 || o.Exn != "" || o.Steps != 0 {
				t.Errorf("Run with %d: %+v, %d", fuel, o, e)
			}
		}
	}
}

// P12.1, P12.2: of no units all declarations are done.
func TestNoUnits(t *testing.T) {
	for _, l := range [][]api.Unit{nil, {}, unitsOf(t, ""), unitsOf(t, "", "", "")} {
		for _, fuel := range []int{0, 1, api.MaxRun} {
			if o, e := Run(l, nil, fuel); e != api.OK || o.Status != api.Done || o.Steps != 0 || len(o.Out) != 0 {
				t.Errorf("Run: %+v, %d", o, e)
			}
		}
		does(t, l, "done")
	}
}

// Rule 8: nodes that the root does not reach, and what notes and parts say of them, play no part.
func TestOtherNodes(t *testing.T) {
	l := sampleUnits(t)
	want, _ := Run(l, nil, 5000)
	p, _ := Lower(l)
	for i := range l {
		u := &l[i]
		for _, n := range []api.Node{{Kind: 77, Kids: []int{5, -3, 1 << 40}}, {Kind: api.EApp}, {Kind: api.PName, Text: "x", Kids: []int{1 << 30}}} {
			u.Nodes = append(u.Nodes, n)
			u.Notes = append(u.Notes, api.Note{Is: 9, At: api.Access{Id: -5, Path: []int{-1}}})
			u.Parts = append(u.Parts, []api.Part{{Str: true}})
		}
	}
	o, e := Run(l, nil, 5000)
	q, e2 := Lower(l)
	if e != api.OK || e2 != api.OK || !alike(o, want) || o.Steps != want.Steps || len(q.Nodes) != len(p.Nodes) {
		t.Errorf("%s, %d; %d", showOutcome(o), e, e2)
	}
}

// Rule 8: nodes that the root does not reach play no part ahead of it either, though they be no nodes.
func TestNodesAhead(t *testing.T) {
	l := sampleUnits(t)
	want, _ := Run(l, nil, 5000)
	for i := range l {
		u := &l[i]
		const more = 3
		var nodes []api.Node
		for _, n := range u.Nodes {
			n.Kids = slices.Clone(n.Kids)
			for k := range n.Kids {
				n.Kids[k] += more
			}
			nodes = append(nodes, n)
		}
		u.Nodes = append([]api.Node{{Kind: 77, Kids: []int{5, -3, 1 << 40}}, {Kind: api.PApp}, {Kind: api.DExn, Kids: []int{-1}}}, nodes...)
		u.Notes = append(make([]api.Note, more), u.Notes...)
		u.Parts = append(make([][]api.Part, more), u.Parts...)
		u.Root += more
	}
	if o := does(t, l, showOutcome(want)); o.Steps != want.Steps {
		t.Errorf("%d steps; want %d", o.Steps, want.Steps)
	}
}

// strange is a number that nobody expects.
func strange(r *rand.Rand) int {
	return []int{-1, 0, 1, 2, 3, 5, 8, 9, 11, 100, 101, 102, 103, 104, 105, 106, 110, 120, math.MaxInt, math.MinInt, 1 << 31, 254, 255, 256, 1 << 20}[r.Intn(25)]
}

func strangeAccess(r *rand.Rand) api.Access {
	a := api.Access{Id: strange(r)}
	for range r.Intn(3) {
		a.Path = append(a.Path, strange(r))
	}
	if r.Intn(10) == 0 {
		a.Path = append(a.Path, make([]int, 40)...)
	}
	return a
}

// turnNote turns something of a note.
func turnNote(r *rand.Rand, n *api.Note) {
	switch r.Intn(9) {
	case 0:
		*n = api.Note{}
	case 1:
		n.Is = api.Naming(r.Intn(6))
	case 2:
		n.At = strangeAccess(r)
	case 3:
		n.Con = strange(r)
	case 4:
		n.Tag = strange(r)
	case 5:
		n.Count = r.Intn(3)
	case 6:
		n.Arg = !n.Arg
	case 7:
		n.Labels = [][]string{nil, {"1"}, {"a", "a"}, {"2", "1"}}[r.Intn(4)]
	default:
		n.Name = []string{"", "+", "=", "print", "exn", "nobody"}[r.Intn(6)]
	}
}

// turnPart turns something of a part.
func turnPart(r *rand.Rand, p *api.Part) {
	switch r.Intn(6) {
	case 0:
		p.Str = !p.Str
	case 1:
		p.Exn = !p.Exn
	case 2:
		p.Sub = append(slices.Clone(p.Sub), api.Part{From: api.Entry{Is: api.Naming(r.Intn(6)), At: strangeAccess(r)}})
	case 3:
		p.From.At = strangeAccess(r)
	case 4:
		p.From.Is = api.Naming(r.Intn(6))
	default:
		p.From.Arg, p.From.Con, p.From.Tag = !p.From.Arg, strange(r), strange(r)
	}
}

// turnNode turns something of a node that plays no part for its form.
func turnNode(r *rand.Rand, n *api.Node) {
	switch r.Intn(3) {
	case 0:
		n.Text = []string{"", "x", "99999999999999999999", "1", "~1", "1.5", "\xff", strings.Repeat("1", 70000)}[r.Intn(8)]
	case 1:
		if len(n.Kids) > 1 {
			n.Kids = slices.Clone(n.Kids)
			slices.Reverse(n.Kids)
		}
	default:
		if len(n.Kids) > 0 {
			n.Kids = append(slices.Clone(n.Kids), n.Kids[len(n.Kids)-1])
		}
	}
}

// turnedUnits are units of which some things are turned at random.
func turnedUnits(r *rand.Rand, good []api.Unit) []api.Unit {
	var l []api.Unit
	for _, u := range good {
		u.Nodes, u.Notes, u.Parts = slices.Clone(u.Nodes), slices.Clone(u.Notes), slices.Clone(u.Parts)
		for range 1 + r.Intn(6) {
			i := r.Intn(len(u.Nodes))
			switch r.Intn(6) {
			case 0:
				turnNode(r, &u.Nodes[i])
			case 1:
				with := slices.IndexFunc(u.Parts[i:], func(p []api.Part) bool { return len(p) > 0 })
				if with >= 0 {
					u.Parts[i+with] = slices.Clone(u.Parts[i+with])
					turnPart(r, &u.Parts[i+with][r.Intn(len(u.Parts[i+with]))])
				}
			case 2:
				u.Parts[i] = nil
			default:
				turnNote(r, &u.Notes[i])
			}
		}
		l = append(l, u)
	}
	if r.Intn(20) == 0 {
		slices.Reverse(l)
	}
	return l
}

// heldStrange calls all with units of which nothing is promised but that calls end, and end again the same.
func heldStrange(t *testing.T, l []api.Unit, fuel int) api.Status {
	t.Helper()
	o, e := Run(l, lines(), fuel)
	if e != api.OK && e != api.ErrUnit || e == api.OK && (o.Status == 0 || o.Status == api.OutOfMemory || o.Steps > fuel || o.Status != api.Uncaught && o.Exn != "") {
		t.Fatalf("Run: %+v, %d", o, e)
	}
	if again, _ := Run(l, lines(), fuel); !alike(o, again) || o.Steps != again.Steps {
		t.Fatalf("Run again: %+v; %+v", o, again)
	}
	p, e2 := Lower(l)
	if e2 != e && e2 != api.ErrMany {
		t.Fatalf("Lower: %d", e2)
	}
	if e2 == api.OK {
		lambda.Run(p, lines(), 10*fuel)
	}
	if e == api.OK {
		p, _ = written(newUnits(l), (*writer).programApart)
		lambda.Run(p, lines(), 10*fuel)
	}
	return o.Status
}

// Rule 1: units whose notes, parts and texts are strange.
func TestStrange(t *testing.T) {
	t.Parallel()
	good := sampleUnits(t)
	var merged []api.Unit
	for _, u := range good {
		merged = append(merged, mergedUnit(u))
	}
	ends := map[api.Status]int{}
	for seed := range int64(1200) {
		r := rand.New(rand.NewSource(seed))
		ends[heldStrange(t, turnedUnits(r, good), 2000)]++
		heldStrange(t, turnedUnits(r, merged), 2000)
	}
	for _, s := range []api.Status{0, api.Done, api.Uncaught, api.Stuck} {
		if ends[s] < 8 {
			t.Errorf("few end so: %v", ends)
		}
	}
}

// Rule 1: trees without notes and parts, whose nodes stand at more places than anybody could go to.
func TestStrangeTrees(t *testing.T) {
	t.Parallel()
	const n = 1500
	bare := func(h *hand, root int) {
		t.Helper()
		heldStrange(t, []api.Unit{{Nodes: h.l, Root: root, Notes: make([]api.Note, len(h.l)), Parts: make([][]api.Part, len(h.l))}}, api.MaxRun)
		notes := make([]api.Note, len(h.l))
		for i := range notes {
			notes[i] = api.Note{Is: api.SVar, At: api.Access{Id: 100}, Labels: []string{"1", "2"}}
		}
		heldStrange(t, []api.Unit{{Nodes: h.l, Root: root, Notes: notes, Parts: make([][]api.Part, len(h.l))}}, 20000)
		for i := range notes {
			notes[i] = api.Note{Is: api.SCon, Arg: true, Con: 9, Count: i % 3, Labels: []string{"1", "2"}}
		}
		heldStrange(t, []api.Unit{{Nodes: h.l, Root: root, Notes: notes, Parts: make([][]api.Part, len(h.l))}}, 20000)
	}
	h := &hand{}
	e, p := h.put(api.EName, "x"), h.put(api.PName, "x")
	for range n {
		e, p = h.pair(api.ERecord, e, e), h.pair(api.PRecord, p, p)
	}
	bare(h, h.decs(h.val(p, e)))
	bare(h, h.decs(h.val(h.put(api.PWild, ""), h.put(api.EApp, "", h.fn(p, e), e))))
	h = &hand{}
	e, p = h.put(api.EName, "x"), h.put(api.PName, "x")
	for range n {
		e, p = h.pair(api.ERecord, e, e), h.put(api.PAs, "x", h.pair(api.PRecord, p, p))
	}
	bare(h, h.decs(h.val(p, e)))
	h = &hand{}
	e, p = h.put(api.NInt, "1"), h.put(api.NInt, "1")
	for range n {
		e, p = h.put(api.EApp, "", e, e), h.put(api.PApp, "", h.put(api.PName, "C"), h.pair(api.PRecord, p, p))
	}
	bare(h, h.decs(h.val(p, e)))
	h = &hand{}
	d := h.val(h.put(api.PName, "x"), h.put(api.NInt, "1"))
	other := h.idle("t")
	for range n {
		d = h.put(api.DLocal, "", h.decs(d, other), h.decs(other, d))
	}
	bare(h, h.decs(d))
	h = &hand{}
	d = h.val(h.put(api.PName, "x"), h.put(api.NInt, "1"))
	for range n {
		d = h.put(api.DLocal, "", h.decs(d), h.decs(d))
	}
	bare(h, h.decs(d))
	h = &hand{}
	d = h.idle("t")
	for range n {
		d = h.put(api.DLocal, "", h.decs(d), h.decs(h.idle("u"), d))
	}
	bare(h, h.decs(d))
	h = &hand{}
	s := h.put(api.SStruct, "", h.decs())
	for range n {
		s = h.put(api.SLet, "", h.decs(h.put(api.DStr, "", h.put(api.NStr, "A", s))), s)
	}
	bare(h, h.decs(h.put(api.DStr, "", h.put(api.NStr, "A", s))))
}

// P12.1, P12.2: names and constants that are longer than a string; val rec of no function; a character of no byte.
func TestHandMade(t *testing.T) {
	long := strings.Repeat("n", api.MaxString+5)
	h := &hand{}
	e := h.put(api.DExn, "", h.put(api.NCon, long))
	root := h.decs(e, h.val(h.put(api.PWild, ""), h.put(api.ERaise, "", h.put(api.EName, long))))
	l := []api.Unit{h.unit(t, root)}
	o, _ := Run(l, nil, 100)
	if o.Status != api.Uncaught || o.Exn != long[:api.MaxString] {
		t.Errorf("%d, of %d bytes", o.Status, len(o.Exn))
	}
	held(t, l, lowers(t, l), nil, 100)
	h = &hand{}
	l = []api.Unit{h.unit(t, h.decs(h.val(h.put(api.PWild, ""), h.prints(long)), h.val(h.put(api.NString, long), h.put(api.NString, long[:api.MaxString]))))}
	o, _ = Run(l, nil, 100)
	if o.Status != api.Done || len(o.Out) != 1 || o.Out[0] != long[:api.MaxString] {
		t.Errorf("%d, %d printed", o.Status, len(o.Out))
	}
	held(t, l, lowers(t, l), nil, 100)
	h = &hand{}
	l = []api.Unit{h.unit(t, h.decs(h.val(h.put(api.NChar, ""), h.put(api.NChar, "\x00")), h.val(h.put(api.NChar, "ab"), h.put(api.NChar, "a"))))}
	does(t, l, "done")
	h = &hand{}
	l = []api.Unit{h.unit(t, h.decs(h.put(api.DRec, "", h.put(api.NBind, "", h.put(api.PName, "x"), h.put(api.NInt, "1")))))}
	does(t, l, "stuck")
}
