package lambda

import (
	"slices"
	"strings"
	"testing"

	"kiln/api"
)

// faulty is a program that Check must refuse, and Run, too, whatever the fuel.
func faulty(t *testing.T, name string, p api.Lambda, want api.Errno) {
	t.Helper()
	if e := Check(p); e != want {
		t.Errorf("%s: Check: %d; want %d", name, e, want)
	}
	for _, fuel := range []int{-1, 0, 5, api.MaxFuel + 1} {
		o, e := Run(p, []string{"a"}, fuel)
		if e != want || len(o.Out) != 0 || o.Status != 0 || o.Exn != "" || o.Steps != 0 {
			t.Errorf("%s: Run: %v, %d; want %d", name, o, e, want)
		}
	}
}

// right is a program that Check must take.
func right(t *testing.T, name string, p api.Lambda) {
	t.Helper()
	if e := Check(p); e != api.OK {
		t.Errorf("%s: Check: %d", name, e)
	}
	if _, e := Run(p, nil, 1000); e != api.OK {
		t.Errorf("%s: Run: %d", name, e)
	}
}

// two are nodes on which others may stand: an int and a function.
func two() []api.Term {
	return []api.Term{{Kind: api.LInt, Int: 1}, {Kind: api.LFn, N: 20, Args: []int{0}}}
}

// on is a program whose root stands on two.
func on(root api.Term) api.Lambda { return api.Lambda{Nodes: append(two(), root), Root: 2} }

// P11.1: each kind's form.
func TestForms(t *testing.T) {
	long := strings.Repeat("a", api.MaxString+1)
	many := make([]int, api.MaxFields+1)
	for name, c := range map[string]struct {
		t    api.Term
		want api.Errno
	}{
		"no kind":                {api.Term{}, api.ErrTerm},
		"kind below":             {api.Term{Kind: -1}, api.ErrTerm},
		"kind above":             {api.Term{Kind: 16, Args: []int{0}}, api.ErrTerm},
		"variable below 0":       {api.Term{Kind: api.LVar, N: -1}, api.ErrTerm},
		"int":                    {api.Term{Kind: api.LInt, Int: api.MaxFix}, 0},
		"least int":              {api.Term{Kind: api.LInt, Int: api.MinFix}, 0},
		"int above":              {api.Term{Kind: api.LInt, Int: api.MaxFix + 1}, api.ErrTerm},
		"int below":              {api.Term{Kind: api.LInt, Int: api.MinFix - 1}, api.ErrTerm},
		"real":                   {api.Term{Kind: api.LReal, Bits: ^uint64(0)}, 0},
		"string":                 {api.Term{Kind: api.LStr, Text: long[1:]}, 0},
		"long string":            {api.Term{Kind: api.LStr, Text: long}, api.ErrTerm},
		"empty tuple":            {api.Term{Kind: api.LTuple}, api.ErrTerm},
		"tuple of one":           {api.Term{Kind: api.LTuple, Args: []int{0}}, 0},
		"widest tuple":           {api.Term{Kind: api.LTuple, Args: many[1:]}, 0},
		"too wide a tuple":       {api.Term{Kind: api.LTuple, Args: many}, api.ErrTerm},
		"field":                  {api.Term{Kind: api.LField, N: 5000, Args: []int{0}}, 0},
		"field below 0":          {api.Term{Kind: api.LField, N: -1, Args: []int{0}}, api.ErrTerm},
		"field of none":          {api.Term{Kind: api.LField}, api.ErrTerm},
		"field of two":           {api.Term{Kind: api.LField, Args: []int{0, 0}}, api.ErrTerm},
		"constructor":            {api.Term{Kind: api.LCon, N: 1 << 40, Args: []int{0}}, 0},
		"tag below 0":            {api.Term{Kind: api.LCon, N: -1, Args: []int{0}}, api.ErrTerm},
		"constructor of none":    {api.Term{Kind: api.LCon}, api.ErrTerm},
		"constructor of two":     {api.Term{Kind: api.LCon, Args: []int{0, 0}}, api.ErrTerm},
		"function":               {api.Term{Kind: api.LFn, N: 0, Args: []int{0}}, 0},
		"function of 0 below":    {api.Term{Kind: api.LFn, N: -1, Args: []int{0}}, api.ErrTerm},
		"function without body":  {api.Term{Kind: api.LFn}, api.ErrTerm},
		"function of two":        {api.Term{Kind: api.LFn, Args: []int{0, 0}}, api.ErrTerm},
		"application":            {api.Term{Kind: api.LApp, Args: []int{1, 0}}, 0},
		"application of one":     {api.Term{Kind: api.LApp, Args: []int{0}}, api.ErrTerm},
		"application of three":   {api.Term{Kind: api.LApp, Args: []int{1, 0, 0}}, api.ErrTerm},
		"let":                    {api.Term{Kind: api.LLet, N: 3, Args: []int{0, 0}}, 0},
		"let below 0":            {api.Term{Kind: api.LLet, N: -1, Args: []int{0, 0}}, api.ErrTerm},
		"let of one":             {api.Term{Kind: api.LLet, Args: []int{0}}, api.ErrTerm},
		"let of three":           {api.Term{Kind: api.LLet, Args: []int{0, 0, 0}}, api.ErrTerm},
		"fix":                    {api.Term{Kind: api.LFix, Vars: []int{0}, Args: []int{1, 0}}, 0},
		"fix of two":             {api.Term{Kind: api.LFix, Vars: []int{4, 4}, Args: []int{1, 1, 1}}, 0},
		"fix of none":            {api.Term{Kind: api.LFix, Args: []int{0}}, api.ErrTerm},
		"fix without body":       {api.Term{Kind: api.LFix, Vars: []int{4}, Args: []int{1}}, api.ErrTerm},
		"fix of too many":        {api.Term{Kind: api.LFix, Vars: []int{4}, Args: []int{1, 1, 0}}, api.ErrTerm},
		"fix of too few":         {api.Term{Kind: api.LFix, Vars: []int{4, 5}, Args: []int{1, 0}}, api.ErrTerm},
		"fix below 0":            {api.Term{Kind: api.LFix, Vars: []int{4, -1}, Args: []int{1, 1, 0}}, api.ErrTerm},
		"fix of an int":          {api.Term{Kind: api.LFix, Vars: []int{4}, Args: []int{0, 0}}, api.ErrTerm},
		"fix of an int behind":   {api.Term{Kind: api.LFix, Vars: []int{4, 5}, Args: []int{1, 0, 0}}, api.ErrTerm},
		"case":                   {api.Term{Kind: api.LCase, Keys: []api.Key{kInt(1), kCon(2), kStr("a")}, Args: []int{0, 0, 0, 0}}, 0},
		"case and all others":    {api.Term{Kind: api.LCase, Keys: []api.Key{kInt(1), kCon(2), kStr("a")}, Args: []int{0, 0, 0, 0, 0}}, 0},
		"case without keys":      {api.Term{Kind: api.LCase, Args: []int{0}}, 0},
		"case of all":            {api.Term{Kind: api.LCase, Args: []int{0, 0}}, 0},
		"case of nothing":        {api.Term{Kind: api.LCase}, api.ErrTerm},
		"case of too few":        {api.Term{Kind: api.LCase, Keys: []api.Key{kInt(1)}, Args: []int{0}}, api.ErrTerm},
		"case of too many":       {api.Term{Kind: api.LCase, Keys: []api.Key{kInt(1)}, Args: []int{0, 0, 0, 0}}, api.ErrTerm},
		"keys of any ints":       {api.Term{Kind: api.LCase, Keys: []api.Key{kInt(1 << 62), kCon(-1), kInt(-1 << 63), kInt(1), kInt(1)}, Args: make([]int, 6)}, 0},
		"key of no kind":         {api.Term{Kind: api.LCase, Keys: []api.Key{{}}, Args: []int{0, 0}}, api.ErrTerm},
		"key of a kind above":    {api.Term{Kind: api.LCase, Keys: []api.Key{kInt(1), {Kind: 4}}, Args: []int{0, 0, 0}}, api.ErrTerm},
		"key of a kind below":    {api.Term{Kind: api.LCase, Keys: []api.Key{{Kind: -1}, kInt(1)}, Args: []int{0, 0, 0}}, api.ErrTerm},
		"key of a string":        {api.Term{Kind: api.LCase, Keys: []api.Key{kStr(long[1:])}, Args: []int{0, 0}}, 0},
		"key of a long string":   {api.Term{Kind: api.LCase, Keys: []api.Key{kInt(2), kStr(long)}, Args: []int{0, 0, 0}}, api.ErrTerm},
		"raise":                  {api.Term{Kind: api.LRaise, Args: []int{0}}, 0},
		"raise of none":          {api.Term{Kind: api.LRaise}, api.ErrTerm},
		"raise of two":           {api.Term{Kind: api.LRaise, Args: []int{0, 0}}, api.ErrTerm},
		"handle":                 {api.Term{Kind: api.LHandle, N: 0, Args: []int{0, 0}}, 0},
		"handle below 0":         {api.Term{Kind: api.LHandle, N: -1, Args: []int{0, 0}}, api.ErrTerm},
		"handle of one":          {api.Term{Kind: api.LHandle, Args: []int{0}}, api.ErrTerm},
		"handle of three":        {api.Term{Kind: api.LHandle, Args: []int{0, 0, 0}}, api.ErrTerm},
		"primitive":              {api.Term{Kind: api.LPrim, N: placeOf("<"), Args: []int{0, 0}}, 0},
		"primitive below 0":      {api.Term{Kind: api.LPrim, N: -1, Args: []int{0, 0}}, api.ErrPrims},
		"primitive behind all":   {api.Term{Kind: api.LPrim, N: len(api.Prims()), Args: []int{0}}, api.ErrPrims},
		"primitive of too few":   {api.Term{Kind: api.LPrim, N: placeOf("<"), Args: []int{0}}, api.ErrPrims},
		"primitive of too many":  {api.Term{Kind: api.LPrim, N: placeOf("<"), Args: []int{0, 0, 0}}, api.ErrPrims},
		"primitive of none":      {api.Term{Kind: api.LPrim, N: placeOf("ref")}, api.ErrPrims},
		"last primitive":         {api.Term{Kind: api.LPrim, N: len(api.Prims()) - 1, Args: []int{0}}, 0},
		"an Arg itself":          {api.Term{Kind: api.LTuple, Args: []int{0, 2}}, api.ErrTerm},
		"an Arg above":           {api.Term{Kind: api.LRaise, Args: []int{3}}, api.ErrTerm},
		"an Arg below 0":         {api.Term{Kind: api.LTuple, Args: []int{-1}}, api.ErrTerm},
		"a primitive's Arg":      {api.Term{Kind: api.LPrim, N: placeOf("<"), Args: []int{0, 2}}, api.ErrTerm},
		"a function's Arg":       {api.Term{Kind: api.LFix, Vars: []int{4}, Args: []int{2, 0}}, api.ErrTerm},
		"a far Arg":              {api.Term{Kind: api.LFn, Args: []int{1 << 62}}, api.ErrTerm},
		"a least Arg":            {api.Term{Kind: api.LFn, Args: []int{-1 << 63}}, api.ErrTerm},
		"a free variable":        {api.Term{Kind: api.LVar, N: 20}, api.ErrFree},
		"a free exception":       {api.Term{Kind: api.LPrim, N: placeOf("+"), Args: []int{0, 0}}, api.ErrFree},
		"a real's sum":           {api.Term{Kind: api.LPrim, N: placeOf("+ real"), Args: []int{0, 0}}, 0},
		"a far variable is free": {api.Term{Kind: api.LVar, N: 1<<63 - 1}, api.ErrFree},
	} {
		if p := on(c.t); c.want == api.OK {
			right(t, name, p)
		} else {
			faulty(t, name, p, c.want)
		}
		// The same further down.
		p := on(c.t)
		p.Nodes, p.Root = append(p.Nodes, api.Term{Kind: api.LTuple, Args: []int{0, 2}}), 3
		if e := Check(p); e != c.want {
			t.Errorf("%s, further down: %d; want %d", name, e, c.want)
		}
		// And where the root is not made of it.
		for _, root := range []api.Term{{Kind: api.LTuple, Args: []int{0, 1}}, {Kind: api.LInt}} {
			p := on(c.t)
			p.Nodes, p.Root = append(p.Nodes, root), 3
			right(t, name+", beside the root", p)
			p.Root = 1
			right(t, name+", behind the root", p)
		}
	}
}

// P11.1: the root.
func TestRoots(t *testing.T) {
	faulty(t, "no nodes", api.Lambda{}, api.ErrTerm)
	for _, root := range []int{-1, 2, 3, 1 << 62, -1 << 63} {
		faulty(t, "no root", api.Lambda{Nodes: two(), Root: root}, api.ErrTerm)
	}
	for _, root := range []int{0, 1} {
		right(t, "a root", api.Lambda{Nodes: two(), Root: root})
	}
}

// P11.1: where several errors apply the first one of the list is told, wherever they stand.
func TestErrorsInOrder(t *testing.T) {
	form, prim, free := api.Term{Kind: api.LTuple}, api.Term{Kind: api.LPrim, N: -1}, api.Term{Kind: api.LVar, N: 20}
	up := api.Term{Kind: api.LRaise, Args: []int{9}}
	filler := make([]api.Term, api.MaxNodes)
	for name, c := range map[string]struct {
		l    []api.Term
		many bool
		want api.Errno
	}{
		"form and prim":         {[]api.Term{form, prim}, false, api.ErrTerm},
		"prim and form":         {[]api.Term{prim, form}, false, api.ErrTerm},
		"prim and up":           {[]api.Term{prim, up}, false, api.ErrTerm},
		"up and prim":           {[]api.Term{up, prim}, false, api.ErrTerm},
		"form and free":         {[]api.Term{form, free}, false, api.ErrTerm},
		"free and form":         {[]api.Term{free, form}, false, api.ErrTerm},
		"form and many":         {[]api.Term{form}, true, api.ErrTerm},
		"up and many":           {[]api.Term{up}, true, api.ErrTerm},
		"prim and free":         {[]api.Term{prim, free}, false, api.ErrPrims},
		"free and prim":         {[]api.Term{free, prim}, false, api.ErrPrims},
		"prim and many":         {[]api.Term{prim}, true, api.ErrPrims},
		"free and many":         {[]api.Term{free}, true, api.ErrMany},
		"many":                  {[]api.Term{{Kind: api.LInt}}, true, api.ErrMany},
		"all":                   {[]api.Term{free, prim, form}, true, api.ErrTerm},
		"all but form":          {[]api.Term{free, prim}, true, api.ErrPrims},
		"a primitive of itself": {[]api.Term{{Kind: api.LPrim, N: -1, Args: []int{0}}}, false, api.ErrTerm},
	} {
		l := slices.Clone(c.l)
		var args []int
		for i := range l {
			args = append(args, i)
		}
		l = append(l, api.Term{Kind: api.LTuple, Args: args})
		p := api.Lambda{Nodes: l, Root: len(l) - 1}
		if c.many {
			p.Nodes = append(p.Nodes, filler...)
		}
		faulty(t, name, p, c.want)
	}
	faulty(t, "no root and many", api.Lambda{Nodes: append(filler, api.Term{}), Root: -1}, api.ErrTerm)
}

// P11.1: as many nodes as there may be, and one more; all of them count, and the root may be made of all.
func TestManyNodes(t *testing.T) {
	l := make([]api.Term, api.MaxNodes+1)
	l[0] = api.Term{Kind: api.LInt}
	for i := range l[1:] {
		l[i+1] = api.Term{Kind: api.LTuple, Args: []int{i}}
	}
	right(t, "all", api.Lambda{Nodes: l[:api.MaxNodes], Root: api.MaxNodes - 1})
	right(t, "one of them", api.Lambda{Nodes: l[:api.MaxNodes], Root: 0})
	faulty(t, "one more", api.Lambda{Nodes: l, Root: api.MaxNodes}, api.ErrMany)
	faulty(t, "one more that plays no part", api.Lambda{Nodes: l, Root: 0}, api.ErrMany)
	o, _ := Run(api.Lambda{Nodes: l[:api.MaxNodes], Root: api.MaxNodes - 1}, nil, api.MaxFuel)
	if o.Status != api.Done || o.Steps != api.MaxNodes {
		t.Errorf("%s, %d steps", showOutcome(o), o.Steps)
	}
}

// P11.1: what is bound, and where; the variables of a program are those of its places.
func TestScopes(t *testing.T) {
	for name, c := range map[string]struct {
		write func(d *desk) int
		want  api.Errno
	}{
		"a function's body":            {func(d *desk) int { return d.fn(20, d.v(20)) }, 0},
		"another variable":             {func(d *desk) int { return d.fn(20, d.v(21)) }, api.ErrFree},
		"a let's second":               {func(d *desk) int { return d.let(20, d.i(1), d.v(20)) }, 0},
		"a let's first":                {func(d *desk) int { return d.let(20, d.v(20), d.i(1)) }, api.ErrFree},
		"a handler":                    {func(d *desk) int { return d.handle(d.i(1), 20, d.v(20)) }, 0},
		"what is handled":              {func(d *desk) int { return d.handle(d.v(20), 20, d.i(1)) }, api.ErrFree},
		"a fix's function":             {func(d *desk) int { return d.fix([]int{20}, d.fn(21, d.v(20)), d.i(1)) }, 0},
		"a fix's body":                 {func(d *desk) int { return d.fix([]int{20}, d.fn(21, d.i(1)), d.v(20)) }, 0},
		"a fix's other":                {func(d *desk) int { return d.fix([]int{20, 22}, d.fn(21, d.v(22)), d.fn(21, d.v(20)), d.i(1)) }, 0},
		"a fix's function's own":       {func(d *desk) int { return d.fix([]int{20}, d.fn(21, d.i(1)), d.v(21)) }, api.ErrFree},
		"behind a let":                 {func(d *desk) int { return d.tuple(d.let(20, d.i(1), d.v(20)), d.v(20)) }, api.ErrFree},
		"ahead of a let":               {func(d *desk) int { return d.tuple(d.v(20), d.let(20, d.i(1), d.v(20))) }, api.ErrFree},
		"an exception's name":          {func(d *desk) int { return d.fn(6, d.prim("+", d.i(1), d.i(2))) }, 0},
		"another exception's name":     {func(d *desk) int { return d.fn(3, d.prim("+", d.i(1), d.i(2))) }, api.ErrFree},
		"one of two exceptions' names": {func(d *desk) int { return d.fn(3, d.prim("div", d.i(1), d.i(2))) }, api.ErrFree},
		"two exceptions' names":        {func(d *desk) int { return d.fn(3, d.let(6, d.i(1), d.prim("div", d.i(1), d.i(2)))) }, 0},
		"free at one of two places":    {func(d *desk) int { x := d.tuple(d.v(20)); return d.tuple(d.fn(20, x), x) }, api.ErrFree},
		"free at the first place":      {func(d *desk) int { x := d.tuple(d.v(20)); return d.tuple(x, d.fn(20, x)) }, api.ErrFree},
		"bound at two places": {func(d *desk) int {
			x := d.tuple(d.v(20))
			return d.tuple(d.fn(20, x), d.let(20, d.i(1), x), d.handle(d.i(1), 20, x))
		}, 0},
		"the variable 0":     {func(d *desk) int { return d.fn(0, d.v(0)) }, 0},
		"a far one":          {func(d *desk) int { return d.fn(1<<63-1, d.v(1<<63-1)) }, 0},
		"a case's branches":  {func(d *desk) int { return d.choose([]api.Key{kInt(1)}, d.i(1), d.i(2), d.v(20)) }, api.ErrFree},
		"a constructor's":    {func(d *desk) int { return d.con(20, d.field(20, d.raise(d.app(d.i(20), d.v(20))))) }, api.ErrFree},
		"no one's variables": {func(d *desk) int { return d.con(20, d.field(20, d.raise(d.app(d.i(20), d.i(20))))) }, 0},
	} {
		d := &desk{}
		root := c.write(d)
		if c.want == api.OK {
			right(t, name, d.program(root))
		} else {
			faulty(t, name, d.program(root), c.want)
		}
	}
}

// Rule 8: fields that a kind of node does not name play no part.
func TestOtherFields(t *testing.T) {
	d := &desk{}
	root := d.whole(d.seq(
		d.let(20, d.fn(21, d.prim("+", d.v(21), d.i(1))), d.say(d.app(d.v(20), d.i(4)))),
		d.handle(d.raise(d.tuple(d.r(1), d.s("x"))), 22, d.print("h")),
		d.fix([]int{23}, d.fn(24, d.choose([]api.Key{kInt(0), kStr("a"), kCon(1)}, d.v(24), d.print("0"), d.print("a"), d.print("c"), d.app(d.v(23), d.i(0)))), d.app(d.v(23), d.i(2))),
		d.field(0, d.con(3, d.i(1)))))
	want := does(t, "as it is", root, `"5" "h" "0" done`)
	junk := api.Term{N: -7, Int: 1 << 62, Bits: 5, Text: strings.Repeat("j", api.MaxString+1), Vars: []int{-1, 2}, Keys: []api.Key{{}, kStr(strings.Repeat("j", api.MaxString+1))}, Args: []int{-1, 1 << 40}}
	for i, x := range root.Nodes {
		full := junk
		full.Kind = x.Kind
		switch x.Kind {
		case api.LVar, api.LFn, api.LLet, api.LHandle, api.LField, api.LCon, api.LPrim:
			full.N = x.N
		case api.LInt:
			full.Int = x.Int
		case api.LReal:
			full.Bits = x.Bits
		case api.LStr:
			full.Text = x.Text
		case api.LFix:
			full.Vars = x.Vars
		case api.LCase:
			full.Keys = nil
			for _, k := range x.Keys {
				if k.Kind == api.KeyStr {
					k.Int = -5
				} else {
					k.Text = junk.Text
				}
				full.Keys = append(full.Keys, k)
			}
		}
		if x.Kind > api.LStr {
			full.Args = x.Args
		}
		root.Nodes[i] = full
	}
	if got := does(t, "with more fields", root, showOutcome(want)); got.Steps != want.Steps {
		t.Errorf("%d steps; want %d", got.Steps, want.Steps)
	}
	if l := Free(root.Nodes, root.Root); len(l) != 0 {
		t.Errorf("Free: %v", l)
	}
}
