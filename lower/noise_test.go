package lower

import (
	"math"
	"math/rand"
	"slices"
	"testing"

	"kiln/api"
	"kiln/derive"
	"kiln/lambda"
)

// sower makes bare trees at random: of each kind of node that there may be, whatever it would mean.
type sower struct {
	hand
	r      *rand.Rand
	shares int // one of so many nodes is one that stands elsewhere, too; 0: none is
}

// one is one of the numbers of some nodes.
func (s *sower) one(makes ...func() int) int { return makes[s.r.Intn(len(makes))]() }

// again makes a node, or finds one of these kinds that there is already.
func (s *sower) again(fits func(k api.NodeKind) bool, makes func() int) int {
	if s.shares > 0 && s.r.Intn(s.shares) == 0 {
		from := s.r.Intn(len(s.l) + 1)
		if at := slices.IndexFunc(s.l[from:], func(n api.Node) bool { return fits(n.Kind) }); at >= 0 {
			return from + at
		}
	}
	return makes()
}

// some are up to so many nodes, at least one.
func (s *sower) some(most int, makes func() int) []int {
	var l []int
	for range 1 + s.r.Intn(most) {
		l = append(l, makes())
	}
	return l
}

func (s *sower) leaf(k api.NodeKind) func() int {
	return func() int {
		texts := []string{"1", "2", "0", "x", "", "1.5", "a", "99999999999999999999"}
		return s.put(k, texts[s.r.Intn(len(texts))])
	}
}

func isExp(k api.NodeKind) bool {
	return k >= api.NInt && k <= api.NChar || k >= api.EName && k <= api.EFn
}

func isPat(k api.NodeKind) bool {
	switch k {
	case api.NInt, api.NString, api.NChar, api.PWild, api.PName, api.PApp, api.PRecord, api.PTyped, api.PAs:
		return true
	}
	return false
}

func (s *sower) field(of func() int) func() int {
	return func() int { return s.put(api.NField, []string{"1", "2", "a"}[s.r.Intn(3)], of()) }
}

// exp is an expression that is at most so deep.
func (s *sower) exp(deep int) int {
	return s.again(isExp, func() int {
		if deep == 0 {
			return s.one(s.leaf(api.NInt), s.leaf(api.NReal), s.leaf(api.NString), s.leaf(api.NChar), s.leaf(api.EName))
		}
		e := func() int { return s.exp(deep - 1) }
		rule := func() int { return s.put(api.NRule, "", s.pat(3), e()) }
		return s.one(e, s.leaf(api.EName),
			func() int { return s.put(api.ERecord, "", s.some(3, s.field(e))...) },
			func() int { return s.put(api.ERecord, "") },
			func() int { return s.put(api.EApp, "", e(), e()) },
			func() int { return s.put(api.EApp, "", s.put(api.EFn, "", s.some(4, rule)...), e()) },
			func() int { return s.put(api.ETyped, "", e(), s.ty(1)) },
			func() int { return s.put(api.EFn, "", s.some(4, rule)...) },
			func() int { return s.put(api.ELet, "", s.decs(deep-1), e()) },
			func() int { return s.put(api.ERaise, "", e()) },
			func() int { return s.put(api.EHandle, "", append([]int{e()}, s.some(3, rule)...)...) })
	})
}

// pat is a pattern that is at most so deep.
func (s *sower) pat(deep int) int {
	return s.again(isPat, func() int {
		if deep == 0 {
			return s.one(s.leaf(api.PWild), s.leaf(api.PName), s.leaf(api.NInt), s.leaf(api.NString), s.leaf(api.NChar))
		}
		p := func() int { return s.pat(deep - 1) }
		return s.one(p, p,
			func() int { return s.put(api.PRecord, "", s.some(2, s.field(p))...) },
			func() int { return s.put(api.PRecord, "", append(s.some(2, s.field(p)), s.put(api.PDots, ""))...) },
			func() int { return s.put(api.PRecord, "") },
			func() int { return s.put(api.PApp, "", s.put(api.PName, "C"), p()) },
			func() int { return s.put(api.PTyped, "", p(), s.ty(1)) },
			func() int { return s.put(api.PAs, "x", p()) })
	})
}

// ty is a type that is at most so deep.
func (s *sower) ty(deep int) int {
	if deep == 0 {
		return s.one(s.leaf(api.TVar), s.leaf(api.TCon))
	}
	t := func() int { return s.ty(deep - 1) }
	return s.one(t,
		func() int { return s.put(api.TRec, "", s.some(2, s.field(t))...) },
		func() int { return s.put(api.TArrow, "", t(), t()) })
}

// decs are declarations that are at most so deep.
func (s *sower) decs(deep int) int {
	return s.again(func(k api.NodeKind) bool { return k == api.NDecs }, func() int {
		var l []int
		for range s.r.Intn(4) {
			l = append(l, s.dec(deep))
		}
		return s.put(api.NDecs, "", l...)
	})
}

func (s *sower) dec(deep int) int {
	less := max(deep-1, 0)
	bind := func() int { return s.put(api.NBind, "", s.pat(2), s.exp(less)) }
	function := func() int {
		rule := func() int { return s.put(api.NRule, "", s.pat(2), s.exp(less)) }
		return s.put(api.NBind, "", s.one(func() int { return s.pat(1) }, s.leaf(api.PName)), s.put(api.EFn, "", s.some(2, rule)...))
	}
	con := func() int { return s.put(api.NCon, "E") }
	same := func() int { return s.put(api.NSame, "E", s.put(api.EName, "F")) }
	makes := []func() int{
		func() int { return s.put(api.DVal, "", s.some(3, bind)...) },
		func() int { return s.put(api.DVal, "", s.some(3, bind)...) },
		func() int { return s.put(api.DRec, "", s.some(3, function)...) },
		func() int { return s.put(api.DRec, "", s.some(2, bind)...) },
		func() int { return s.put(api.DExn, "", s.some(3, func() int { return s.one(con, same) })...) },
		func() int { return s.put(api.DOpen, "", s.some(2, s.leaf(api.SName))...) },
		func() int { return s.put(api.DType, "", s.put(api.NTybind, "t", s.ty(1))) },
		func() int { return s.put(api.DData, "", s.put(api.NDatbind, "t", s.put(api.NCon, "C", s.ty(1)))) },
		func() int { return s.put(api.DCopy, "t", s.put(api.TCon, "u")) },
		func() int { return s.put(api.DSig, "", s.put(api.NSig, "S", s.sig())) },
	}
	if deep > 0 {
		makes = append(makes,
			func() int { return s.put(api.DLocal, "", s.decs(less), s.decs(less)) },
			func() int {
				return s.put(api.DStr, "", s.some(2, func() int { return s.put(api.NStr, "A", s.str(less)) })...)
			},
			func() int {
				return s.put(api.DFct, "", s.put(api.NFct, "F", s.put(api.NSig, "P", s.sig()), s.str(less)))
			})
	}
	return s.one(makes...)
}

func (s *sower) sig() int {
	return s.one(s.leaf(api.GName), func() int {
		return s.put(api.GSig, "", s.put(api.XVal, "", s.put(api.NCon, "x", s.ty(1))))
	})
}

// str is a structure that is at most so deep.
func (s *sower) str(deep int) int {
	if deep == 0 {
		return s.one(s.leaf(api.SName), func() int { return s.put(api.SStruct, "", s.decs(0)) })
	}
	return s.again(func(k api.NodeKind) bool { return k >= api.SStruct && k <= api.SLet }, func() int {
		less := deep - 1
		return s.one(
			func() int { return s.put(api.SStruct, "", s.decs(less)) },
			func() int { return s.put(api.SApp, "F", s.str(less)) },
			func() int { return s.put(api.STrans, "", s.str(less), s.sig()) },
			func() int { return s.put(api.SOpaque, "", s.str(less), s.sig()) },
			func() int { return s.put(api.SLet, "", s.decs(less), s.str(less)) })
	})
}

// anyAccess is somewhere, often where something is.
func anyAccess(r *rand.Rand) api.Access {
	a := api.Access{Id: []int{100, 101, 102, 0, 1, 5, 10, 12, -1}[r.Intn(9)]}
	for range r.Intn(3) {
		a.Path = append(a.Path, []int{0, 0, 1, 2, -1, 300}[r.Intn(6)])
	}
	return a
}

// anyNote is a note that says something of all that notes can say.
func anyNote(r *rand.Rand) api.Note {
	if r.Intn(12) == 0 {
		labels := slices.Repeat([]string{"1", "b", "2"}, 1+r.Intn(200))
		return api.Note{Is: api.Naming(strange(r)), Name: "=", At: strangeAccess(r), Con: strange(r), Tag: strange(r), Count: strange(r), Arg: true, Labels: labels}
	}
	return api.Note{
		Is:     api.Naming(r.Intn(6)),
		Name:   []string{"", "+", "=", "print", "exn", "ref", "nobody"}[r.Intn(7)],
		At:     anyAccess(r),
		Con:    []int{-1, api.ConInt, api.ConReal, api.ConRef, 77}[r.Intn(5)],
		Tag:    []int{0, 1, 2, -1, 1 << 40}[r.Intn(5)],
		Count:  r.Intn(4) - 1,
		Arg:    r.Intn(2) == 0,
		Labels: [][]string{nil, {"1", "2"}, {"1"}, {"a", "1", "2"}, {"2", "2"}}[r.Intn(5)],
	}
}

// anyParts are up to so many parts.
func anyParts(r *rand.Rand, most int) []api.Part {
	var l []api.Part
	for range r.Intn(most + 1) {
		n := anyNote(r)
		l = append(l, api.Part{
			From: api.Entry{Is: n.Is, Name: n.Name, At: n.At, Con: n.Con, Tag: n.Tag, Count: n.Count, Arg: n.Arg},
			Exn:  r.Intn(2) == 0,
			Str:  r.Intn(2) == 0,
			Sub:  anyParts(r, most-1),
		})
	}
	return l
}

// sown is a unit at random, with notes and parts of any kind at any node.
func sown(r *rand.Rand) api.Unit {
	s := &sower{r: r, shares: []int{0, 3, 9}[r.Intn(3)]}
	var u api.Unit
	u.Root = s.put(api.NDecs, "", s.some(3, func() int { return s.dec(3) })...)
	u.Nodes = s.l
	one := anyNote(r)
	for range u.Nodes {
		var p []api.Part
		if r.Intn(2) == 0 {
			p = anyParts(r, 2)
		}
		u.Parts = append(u.Parts, p)
		switch r.Intn(4) {
		case 0:
			u.Notes = append(u.Notes, api.Note{})
		case 1:
			u.Notes = append(u.Notes, one)
		default:
			u.Notes = append(u.Notes, anyNote(r))
		}
	}
	return u
}

// Rule 1, P12.1, P12.2: units with notes and parts of any kind at any node: no call panics, and what derive.Bare takes is no fault, and never too much.
func TestSown(t *testing.T) {
	t.Parallel()
	ends, kinds, repeats := map[api.Status]int{}, map[api.NodeKind]int{}, 0
	for seed := range int64(3000) {
		l := sownUnits(t, seed)
		if hasRepeats(newUnits(l)[0]) {
			repeats++
		}
		for _, n := range l[0].Nodes {
			kinds[n.Kind]++
		}
		func() {
			defer func() {
				if r := recover(); r != nil {
					t.Fatalf("seed %d: %v; %+v", seed, r, l)
				}
			}()
			ends[heldStrange(t, l, 500)]++
		}()
		if p, e := Lower(l); e != api.OK || len(p.Nodes) == 0 {
			t.Fatalf("seed %d: Lower: %d of %d nodes and parts", seed, e, size(l))
		}
	}
	if ends[api.Done] < 100 || ends[api.Stuck] < 300 || ends[api.Uncaught] < 15 || repeats < 600 || ends[0] > 0 {
		t.Errorf("%v; %d with nodes at several places", ends, repeats)
	}
	for _, k := range []api.NodeKind{api.NReal, api.NSame, api.DOpen, api.DCopy, api.PAs, api.PDots, api.SLet, api.SApp, api.SOpaque, api.STrans, api.DFct, api.EHandle} {
		if kinds[k] < 100 {
			t.Errorf("few nodes of kind %d: %d", k, kinds[k])
		}
	}
}

// Rule 1, P12.1, P12.2: patterns that are no names, with notes that a name may have.
func TestNamelessNotes(t *testing.T) {
	for _, is := range []api.Naming{api.SVar, api.SCon, api.SExn, api.SPrim} {
		for _, count := range []int{0, 1, 2} {
			strange := api.Note{Is: is, Count: count, At: api.Access{Id: api.XDiv}}
			for name, l := range map[string][]api.Unit{
				"a record":  {unitOf(strange, func(h *hand) int { return h.put(api.PRecord, "", h.put(api.NField, "1", h.said(1))) })},
				"a blank":   {unitOf(strange, func(h *hand) int { return h.put(api.PAs, "x", h.put(api.PWild, "")) })},
				"a number":  {unitOf(strange, func(h *hand) int { return h.said(1) })},
				"no number": {unitOf(strange, func(h *hand) int { return h.put(api.NInt, "x") })},
				"what is made": {unitOf(strange, func(h *hand) int {
					return h.put(api.PApp, "", h.put(api.PName, "C"), h.put(api.PAs, "x", h.put(api.PTyped, "", h.put(api.PWild, ""), h.put(api.TVar, "'a"))))
				})},
			} {
				if o := heldStrange(t, l, 100); o != api.Done && o != api.Stuck {
					t.Errorf("%s, %d, %d: %d", name, is, count, o)
				}
				if _, e := Lower(l); e != api.OK {
					t.Errorf("%s, %d, %d: Lower: %d", name, is, count, e)
				}
			}
		}
	}
}

// unitOf is a function with a pattern; the notes of its nodes that are no names are this one.
func unitOf(note api.Note, pattern func(h *hand) int) api.Unit {
	h := &hand{}
	p := pattern(h)
	u := api.Unit{Notes: make([]api.Note, p+1)}
	for i, n := range h.l {
		if u.Notes[i] = note; n.Kind == api.PName {
			u.Notes[i] = api.Note{Is: api.SCon, Arg: true, Count: 2}
		}
	}
	u.Root = h.decs(h.val(h.put(api.PWild, ""), h.fn(p, h.said(1))))
	u.Nodes, u.Parts = h.l, make([][]api.Part, len(h.l))
	u.Notes = append(u.Notes, make([]api.Note, len(h.l)-len(u.Notes))...)
	return u
}

// farUnit is many declarations that ask for fields which nobody has.
func farUnit(path []int, labels []string) api.Unit {
	h := &hand{}
	var decs []int
	for range 50 {
		decs = append(decs, h.val(h.put(api.PRecord, "", h.put(api.NField, "last", h.said(1))), h.put(api.EName, "x")))
	}
	u := api.Unit{Root: h.decs(decs...), Nodes: h.l, Notes: make([]api.Note, len(h.l)), Parts: make([][]api.Part, len(h.l))}
	for i, n := range h.l {
		switch n.Kind {
		case api.EName:
			u.Notes[i] = api.Note{Is: api.SVar, At: api.Access{Id: api.XDiv, Path: path}}
		case api.PRecord:
			u.Notes[i].Labels = labels
		}
	}
	return u
}

// P12.2: where notes ask for fields that nobody has there are never too many nodes.
func TestFarFields(t *testing.T) {
	labels := append(make([]string, 66000), "last")
	for _, field := range []int{5000, 100000, 1 << 24, 1 << 40, math.MaxInt} {
		for _, times := range []int{1, 17, 300} {
			l := []api.Unit{farUnit(slices.Repeat([]int{field}, times), labels)}
			for name, write := range map[string]func(w *writer, units []*unit) int{"": (*writer).program, "apart": (*writer).programApart} {
				if p, e := written(newUnits(l), write); e != api.OK || len(p.Nodes) > 32*size(l)+200 {
					t.Errorf("%d fields %d %s: %d nodes, %d", times, field, name, len(p.Nodes), e)
				}
			}
			if o, e := Run(l, nil, 100); e != api.OK || o.Status != api.Stuck {
				t.Errorf("%d fields %d: %d, %d", times, field, o.Status, e)
			}
		}
	}
}

// sownUnits are one or two units at random.
func sownUnits(t *testing.T, seed int64) []api.Unit {
	t.Helper()
	r := rand.New(rand.NewSource(seed))
	var l []api.Unit
	for range 1 + r.Intn(2) {
		u := sown(r)
		if !derive.Bare(u.Nodes, u.Root) {
			t.Fatalf("seed %d: no bare tree", seed)
		}
		l = append(l, u)
	}
	return l
}

// Rule 8: what notes and parts say that nobody asks for plays no part: the same is done, and the program is the same.
func TestNoise(t *testing.T) {
	t.Parallel()
	same := func(name string, r *rand.Rand, l []api.Unit) {
		t.Helper()
		noisy := noisyUnits(r, l)
		for _, fuel := range []int{3000, r.Intn(60)} {
			want, _ := Run(l, lines(), fuel)
			if got, e := Run(noisy, lines(), fuel); e != api.OK || !alike(got, want) || got.Steps != want.Steps {
				t.Errorf("%s with %d: %s, %d steps, %d; want %s, %d steps", name, fuel, showOutcome(got), got.Steps, e, showOutcome(want), want.Steps)
			}
		}
		want, _ := Lower(l)
		if got, e := Lower(noisy); e != api.OK || !samePrograms(got, want) {
			t.Errorf("%s: Lower answers another program: %d", name, e)
		}
		want, _ = written(newUnits(l), (*writer).programApart)
		if got, e := written(newUnits(noisy), (*writer).programApart); e != api.OK || !samePrograms(got, want) {
			t.Errorf("%s: apart there is another program: %d", name, e)
		}
	}
	for seed := range int64(80) {
		r := rand.New(rand.NewSource(seed))
		same("the sample", r, sampleUnits(t))
	}
	wholes(t, 5000, 5100, func(seed int64, text string, l []api.Unit) {
		same(text, rand.New(rand.NewSource(seed)), l)
		same("merged: "+text, rand.New(rand.NewSource(seed)), []api.Unit{mergedUnit(l[0])})
	})
}

// samePrograms tells whether two programs are the same, node by node.
func samePrograms(a, b api.Lambda) bool {
	return a.Root == b.Root && slices.EqualFunc(a.Nodes, b.Nodes, func(x, y api.Term) bool {
		return x.Kind == y.Kind && x.N == y.N && x.Int == y.Int && x.Bits == y.Bits && x.Text == y.Text &&
			slices.Equal(x.Vars, y.Vars) && slices.Equal(x.Args, y.Args) && slices.Equal(x.Keys, y.Keys)
	})
}

// noisyUnits are units with all the noise that there may be in their notes and parts.
func noisyUnits(r *rand.Rand, l []api.Unit) []api.Unit {
	var noisy []api.Unit
	for _, u := range l {
		n := api.Unit{Nodes: u.Nodes, Root: u.Root}
		for i, note := range u.Notes {
			n.Notes = append(n.Notes, noisyNote(r, u.Nodes[i].Kind, note))
			n.Parts = append(n.Parts, noisyParts(r, u.Nodes[i].Kind, u.Parts[i]))
		}
		noisy = append(noisy, n)
	}
	return noisy
}

// noisyNote is a note in which all is noise for which its kind of node does not ask.
func noisyNote(r *rand.Rand, k api.NodeKind, n api.Note) api.Note {
	x := anyNote(r)
	switch k {
	case api.EName:
		return noisyName(x, n)
	case api.PName: // the one of a PApp needs its Con without any Arg
		arg := x.Arg
		n.Arg = true
		x = noisyName(x, n)
		x.Arg = arg
	case api.PRecord:
		x.Labels = n.Labels
	case api.PAs, api.NCon, api.NStr, api.NSig, api.NFct:
		x.At.Id = n.At.Id
	case api.SName, api.SApp:
		x.At = n.At
	}
	return x
}

// noisyName is the note x, which is noise, with what a name's note says.
func noisyName(x, n api.Note) api.Note {
	x.Is, x.Arg = n.Is, n.Arg
	switch n.Is {
	case api.SVar, api.SExn:
		x.At = n.At
	case api.SCon:
		x.Tag, x.Count = n.Tag, n.Count
		if n.Arg {
			x.Con = n.Con
		}
	case api.SPrim:
		x.Name, x.Con = n.Name, n.Con
	}
	return x
}

// noisyParts are parts in which all is noise for which nobody asks.
func noisyParts(r *rand.Rand, k api.NodeKind, l []api.Part) []api.Part {
	switch k {
	case api.SStruct, api.STrans, api.SOpaque, api.SApp:
	default:
		return anyParts(r, 2)
	}
	var noisy []api.Part
	for _, p := range l {
		x := anyParts(r, 1)
		for len(x) == 0 {
			x = anyParts(r, 1)
		}
		q := x[0]
		q.Str = p.Str
		switch {
		case p.Str && len(p.Sub) > 0:
			q.Sub = noisyParts(r, k, p.Sub)
		case p.Str:
			q.Sub, q.From.At = nil, p.From.At
		default:
			n := noisyName(anyNote(r), api.Note{Is: p.From.Is, At: p.From.At, Con: p.From.Con, Tag: p.From.Tag, Count: p.From.Count, Arg: p.From.Arg, Name: p.From.Name})
			q.Sub = anyParts(r, 1)
			if n.Is == api.SPrim {
				n.Con = r.Intn(9) // in a structure there are none that are overloaded
			}
			q.From = api.Entry{Is: n.Is, At: n.At, Con: n.Con, Tag: n.Tag, Count: n.Count, Arg: n.Arg, Name: n.Name}
			if p.From.Is == api.SExn {
				q.Exn = p.Exn
			}
		}
		noisy = append(noisy, q)
	}
	return noisy
}

// FuzzSown holds the calls against units that a number makes.
func FuzzSown(f *testing.F) {
	f.Add(int64(1))
	f.Fuzz(func(t *testing.T, seed int64) {
		l := sownUnits(t, seed)
		heldStrange(t, l, 500)
		if p, e := Lower(l); e == api.OK {
			lambda.Check(p)
		}
	})
}
