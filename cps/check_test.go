package cps

import (
	"slices"
	"strings"
	"testing"

	"kiln/api"
)

// faulty is a program that Check must refuse, and Run, too, whatever the fuel.
func faulty(t *testing.T, name string, p api.Cps, want api.Errno) {
	t.Helper()
	if e := Check(p); e != want {
		t.Errorf("%s: Check: %d; want %d", name, e, want)
	}
	for _, fuel := range []int{-1, 0, 5, api.MaxFuel + 1} {
		o, e := Run(p, []string{"a"}, fuel)
		if e != want || len(o.Out) != 0 || o.Status != 0 || o.Exn != "" || o.Steps != 0 {
			t.Errorf("%s: Run: %v, %d; want %d", name, o, e, want)
		}
	}
}

// right is a program that Check must take.
func right(t *testing.T, name string, p api.Cps) {
	t.Helper()
	if e := Check(p); e != api.OK {
		t.Errorf("%s: Check: %d", name, e)
	}
	if _, e := Run(p, nil, 1000); e != api.OK {
		t.Errorf("%s: Run: %d", name, e)
	}
}

// Nodes on which others may stand, by their places in three.
const (
	anAtom = iota
	aMove
	aFn
	theRoot
)

func three() []api.Flow {
	return []api.Flow{{Kind: api.JInt, Int: 1}, {Kind: api.JHalt, Args: []int{anAtom}}, {Kind: api.JFn, Vars: []int{20}, Args: []int{aMove}}}
}

// on is a program whose root stands on three.
func on(root api.Flow) api.Cps { return api.Cps{Nodes: append(three(), root), Root: theRoot} }

// args are so many atoms, and behind them some other nodes.
func args(atoms int, others ...int) []int {
	return append(slices.Repeat([]int{anAtom}, atoms), others...)
}

// rising are so many unlike variables.
func rising(n int) []int {
	var l []int
	for i := range n {
		l = append(l, i)
	}
	return l
}

// moveForms are moves, and what Check says of them.
func moveForms() map[string]form {
	return map[string]form{
		"a tuple of one":            {api.Flow{Kind: api.JTuple, Args: args(1, aMove)}, 0},
		"the widest tuple":          {api.Flow{Kind: api.JTuple, N: 1<<63 - 1, Args: args(api.MaxFields, aMove)}, 0},
		"too wide a tuple":          {api.Flow{Kind: api.JTuple, Args: args(api.MaxFields+1, aMove)}, api.ErrMove},
		"an empty tuple":            {api.Flow{Kind: api.JTuple, Args: args(0, aMove)}, api.ErrMove},
		"a tuple of nothing":        {api.Flow{Kind: api.JTuple}, api.ErrMove},
		"a tuple without an end":    {api.Flow{Kind: api.JTuple, Args: args(2)}, api.ErrMove},
		"a tuple with two ends":     {api.Flow{Kind: api.JTuple, Args: args(1, aMove, aMove)}, api.ErrMove},
		"a tuple of a function":     {api.Flow{Kind: api.JTuple, Args: []int{aFn, aMove}}, api.ErrMove},
		"a tuple and a function":    {api.Flow{Kind: api.JTuple, Args: args(1, aFn)}, api.ErrMove},
		"a tuple the other way":     {api.Flow{Kind: api.JTuple, Args: []int{aMove, anAtom}}, api.ErrMove},
		"a tuple's variable":        {api.Flow{Kind: api.JTuple, N: -1, Args: args(1, aMove)}, api.ErrMove},
		"a constructor":             {api.Flow{Kind: api.JCon, M: 1<<63 - 1, Args: args(1, aMove)}, 0},
		"a constructor's tag":       {api.Flow{Kind: api.JCon, M: -1, Args: args(1, aMove)}, api.ErrMove},
		"a constructor's variable":  {api.Flow{Kind: api.JCon, N: -1, Args: args(1, aMove)}, api.ErrMove},
		"a constructor of none":     {api.Flow{Kind: api.JCon, Args: args(0, aMove)}, api.ErrMove},
		"a constructor of two":      {api.Flow{Kind: api.JCon, Args: args(2, aMove)}, api.ErrMove},
		"a constructor of a move":   {api.Flow{Kind: api.JCon, Args: []int{aMove, aMove}}, api.ErrMove},
		"a constructor and an atom": {api.Flow{Kind: api.JCon, Args: args(2)}, api.ErrMove},
		"a field":                   {api.Flow{Kind: api.JField, M: 5000, Args: args(1, aMove)}, 0},
		"a field below 0":           {api.Flow{Kind: api.JField, M: -1, Args: args(1, aMove)}, api.ErrMove},
		"a field's variable":        {api.Flow{Kind: api.JField, N: -1, Args: args(1, aMove)}, api.ErrMove},
		"a field of none":           {api.Flow{Kind: api.JField, Args: args(0, aMove)}, api.ErrMove},
		"a field of two":            {api.Flow{Kind: api.JField, Args: args(2, aMove)}, api.ErrMove},
		"a field of a function":     {api.Flow{Kind: api.JField, Args: []int{aFn, aMove}}, api.ErrMove},
		"a field and a function":    {api.Flow{Kind: api.JField, Args: args(1, aFn)}, api.ErrMove},
		"a fix":                     {api.Flow{Kind: api.JFix, Vars: []int{0}, Args: []int{aFn, aMove}}, 0},
		"a fix of two":              {api.Flow{Kind: api.JFix, Vars: []int{4, 4}, Args: []int{aFn, aFn, aMove}}, 0},
		"a fix of none":             {api.Flow{Kind: api.JFix, Args: []int{aMove}}, api.ErrMove},
		"a fix of nothing":          {api.Flow{Kind: api.JFix, Vars: []int{4}}, api.ErrMove},
		"a fix without an end":      {api.Flow{Kind: api.JFix, Vars: []int{4}, Args: []int{aFn}}, api.ErrMove},
		"a fix of too many":         {api.Flow{Kind: api.JFix, Vars: []int{4}, Args: []int{aFn, aFn, aMove}}, api.ErrMove},
		"a fix of too few":          {api.Flow{Kind: api.JFix, Vars: []int{4, 5}, Args: []int{aFn, aMove}}, api.ErrMove},
		"a fix's variable":          {api.Flow{Kind: api.JFix, Vars: []int{4, -1}, Args: []int{aFn, aFn, aMove}}, api.ErrMove},
		"a fix of an atom":          {api.Flow{Kind: api.JFix, Vars: []int{4}, Args: []int{anAtom, aMove}}, api.ErrMove},
		"a fix of a move":           {api.Flow{Kind: api.JFix, Vars: []int{4, 5}, Args: []int{aFn, aMove, aMove}}, api.ErrMove},
		"a fix and a function":      {api.Flow{Kind: api.JFix, Vars: []int{4}, Args: []int{aFn, aFn}}, api.ErrMove},
		"a fix and an atom":         {api.Flow{Kind: api.JFix, Vars: []int{4}, Args: []int{aFn, anAtom}}, api.ErrMove},
		"a call":                    {api.Flow{Kind: api.JCall, Args: args(1)}, 0},
		"the longest call":          {api.Flow{Kind: api.JCall, Args: args(1 + api.MaxArity)}, 0},
		"too long a call":           {api.Flow{Kind: api.JCall, Args: args(2 + api.MaxArity)}, api.ErrMove},
		"a call of nothing":         {api.Flow{Kind: api.JCall}, api.ErrMove},
		"a call of a function":      {api.Flow{Kind: api.JCall, Args: []int{aFn, anAtom}}, api.ErrMove},
		"a call with a move":        {api.Flow{Kind: api.JCall, Args: args(1, aMove)}, api.ErrMove},
		"a case":                    {api.Flow{Kind: api.JCase, Keys: []api.Key{kInt(1), kCon(2), kStr("a")}, Args: args(1, aMove, aMove, aMove)}, 0},
		"a case and all others":     {api.Flow{Kind: api.JCase, Keys: []api.Key{kInt(1), kCon(2), kStr("a")}, Args: args(1, aMove, aMove, aMove, aMove)}, 0},
		"a case without keys":       {api.Flow{Kind: api.JCase, Args: args(1)}, 0},
		"a case of all":             {api.Flow{Kind: api.JCase, Args: args(1, aMove)}, 0},
		"a case of nothing":         {api.Flow{Kind: api.JCase}, api.ErrMove},
		"a case of too few":         {api.Flow{Kind: api.JCase, Keys: []api.Key{kInt(1)}, Args: args(1)}, api.ErrMove},
		"a case of too many":        {api.Flow{Kind: api.JCase, Keys: []api.Key{kInt(1)}, Args: args(1, aMove, aMove, aMove)}, api.ErrMove},
		"a case of a move":          {api.Flow{Kind: api.JCase, Args: []int{aMove, aMove}}, api.ErrMove},
		"a case with an atom":       {api.Flow{Kind: api.JCase, Keys: []api.Key{kInt(1)}, Args: args(2, aMove)}, api.ErrMove},
		"a case with a function":    {api.Flow{Kind: api.JCase, Keys: []api.Key{kInt(1)}, Args: args(1, aMove, aFn)}, api.ErrMove},
		"keys of any ints":          {api.Flow{Kind: api.JCase, Keys: []api.Key{kInt(1 << 62), kCon(-1), kInt(-1 << 63), kInt(1), kInt(1)}, Args: args(1, aMove, aMove, aMove, aMove, aMove)}, 0},
		"a key of no kind":          {api.Flow{Kind: api.JCase, Keys: []api.Key{{}}, Args: args(1, aMove)}, api.ErrMove},
		"a key of a kind above":     {api.Flow{Kind: api.JCase, Keys: []api.Key{kInt(1), {Kind: 4}}, Args: args(1, aMove, aMove)}, api.ErrMove},
		"a key of a kind below":     {api.Flow{Kind: api.JCase, Keys: []api.Key{{Kind: -1}, kInt(1)}, Args: args(1, aMove, aMove)}, api.ErrMove},
		"a key of a string":         {api.Flow{Kind: api.JCase, Keys: []api.Key{kStr(strings.Repeat("a", api.MaxString))}, Args: args(1, aMove)}, 0},
		"a key of a long string":    {api.Flow{Kind: api.JCase, Keys: []api.Key{kInt(2), kStr(strings.Repeat("a", api.MaxString+1))}, Args: args(1, aMove, aMove)}, api.ErrMove},
		"an int's key with a text":  {api.Flow{Kind: api.JCase, Keys: []api.Key{{Kind: api.KeyInt, Text: strings.Repeat("a", api.MaxString+1)}}, Args: args(1, aMove)}, 0},
		"a halt":                    {api.Flow{Kind: api.JHalt, N: -1, M: -1, Vars: []int{-1}, Args: args(1)}, 0},
		"a halt of none":            {api.Flow{Kind: api.JHalt}, api.ErrMove},
		"a halt of two":             {api.Flow{Kind: api.JHalt, Args: args(2)}, api.ErrMove},
		"a halt of a move":          {api.Flow{Kind: api.JHalt, Args: []int{aMove}}, api.ErrMove},
		"a fail":                    {api.Flow{Kind: api.JFail, Args: args(1)}, 0},
		"a fail of none":            {api.Flow{Kind: api.JFail}, api.ErrMove},
		"a fail of two":             {api.Flow{Kind: api.JFail, Args: args(2)}, api.ErrMove},
		"a fail of a function":      {api.Flow{Kind: api.JFail, Args: []int{aFn}}, api.ErrMove},
		"no kind":                   {api.Flow{}, api.ErrMove},
		"a kind below":              {api.Flow{Kind: -1}, api.ErrMove},
		"a kind of flat programs":   {api.Flow{Kind: api.JGo, Args: args(1)}, api.ErrMove},
		"a kind above":              {api.Flow{Kind: 16, Args: args(1)}, api.ErrMove},
		"an Arg itself":             {api.Flow{Kind: api.JTuple, Args: args(1, theRoot)}, api.ErrMove},
		"an Arg above":              {api.Flow{Kind: api.JTuple, Args: []int{theRoot + 1, aMove}}, api.ErrMove},
		"an Arg below 0":            {api.Flow{Kind: api.JHalt, Args: []int{-1}}, api.ErrMove},
		"a far Arg":                 {api.Flow{Kind: api.JCall, Args: []int{anAtom, 1 << 62}}, api.ErrMove},
		"a least Arg":               {api.Flow{Kind: api.JCall, Args: []int{-1 << 63}}, api.ErrMove},
		"a case's Arg":              {api.Flow{Kind: api.JCase, Args: args(1, theRoot)}, api.ErrMove},
		"a fix's Arg":               {api.Flow{Kind: api.JFix, Vars: []int{4}, Args: []int{theRoot, aMove}}, api.ErrMove},
		"a primitive's Arg":         {api.Flow{Kind: api.JPrim, M: -1, Args: []int{theRoot}}, api.ErrMove},
	}
}

type form struct {
	f    api.Flow
	want api.Errno
}

// primForms are primitives, and what Check says of them.
func primForms() map[string]form {
	below, plus := placeOf("<"), placeOf("+")
	return map[string]form{
		"a primitive":                 {api.Flow{Kind: api.JPrim, M: below, Args: args(2, aMove)}, 0},
		"one that raises":             {api.Flow{Kind: api.JPrim, M: plus, Args: args(2, aMove, aMove)}, 0},
		"the last one":                {api.Flow{Kind: api.JPrim, M: len(api.Prims()) - 1, Args: args(1, aMove)}, 0},
		"its variable":                {api.Flow{Kind: api.JPrim, N: -1, M: below, Args: args(2, aMove)}, api.ErrMove},
		"its variable, too":           {api.Flow{Kind: api.JPrim, N: -1, M: -1, Args: args(2, aMove)}, api.ErrMove},
		"below 0":                     {api.Flow{Kind: api.JPrim, M: -1, Args: args(2, aMove)}, api.ErrPrims},
		"behind all":                  {api.Flow{Kind: api.JPrim, M: len(api.Prims()), Args: args(1, aMove)}, api.ErrPrims},
		"far behind all":              {api.Flow{Kind: api.JPrim, M: 1<<63 - 1, Args: args(1, aMove)}, api.ErrPrims},
		"too few":                     {api.Flow{Kind: api.JPrim, M: below, Args: args(1, aMove)}, api.ErrPrims},
		"too many":                    {api.Flow{Kind: api.JPrim, M: below, Args: args(3, aMove)}, api.ErrPrims},
		"none":                        {api.Flow{Kind: api.JPrim, M: below}, api.ErrPrims},
		"no end":                      {api.Flow{Kind: api.JPrim, M: below, Args: args(2)}, api.ErrPrims},
		"an end for what it raises":   {api.Flow{Kind: api.JPrim, M: below, Args: args(2, aMove, aMove)}, api.ErrPrims},
		"no end for what it raises":   {api.Flow{Kind: api.JPrim, M: plus, Args: args(2, aMove)}, api.ErrPrims},
		"three ends":                  {api.Flow{Kind: api.JPrim, M: plus, Args: args(2, aMove, aMove, aMove)}, api.ErrPrims},
		"an atom for an end":          {api.Flow{Kind: api.JPrim, M: below, Args: args(3)}, api.ErrMove},
		"a function for an end":       {api.Flow{Kind: api.JPrim, M: below, Args: args(2, aFn)}, api.ErrMove},
		"an atom for the first end":   {api.Flow{Kind: api.JPrim, M: plus, Args: args(3, aMove)}, api.ErrMove},
		"an atom for the second end":  {api.Flow{Kind: api.JPrim, M: plus, Args: append(args(2, aMove), anAtom)}, api.ErrMove},
		"a function for the second":   {api.Flow{Kind: api.JPrim, M: plus, Args: args(2, aMove, aFn)}, api.ErrMove},
		"a move for an atom":          {api.Flow{Kind: api.JPrim, M: below, Args: args(1, aMove, aMove)}, api.ErrMove},
		"a function for an atom":      {api.Flow{Kind: api.JPrim, M: plus, Args: []int{aFn, anAtom, aMove, aMove}}, api.ErrMove},
		"of reals, which never raise": {api.Flow{Kind: api.JPrim, M: placeOf("+ real"), Args: args(2, aMove)}, 0},
		"with what plays no part":     {api.Flow{Kind: api.JPrim, M: below, Int: 1 << 63 >> 1, Text: "a", Vars: []int{-1}, Keys: []api.Key{{}}, Args: args(2, aMove)}, 0},
	}
}

// P13.1: each move's form.
func TestMoves(t *testing.T) {
	for _, forms := range []map[string]form{moveForms(), primForms()} {
		for name, c := range forms {
			if p := on(c.f); c.want == api.OK {
				right(t, name, p)
			} else {
				faulty(t, name, p, c.want)
			}
			// The same further down: behind another move, and as a branch and in a function.
			p := on(c.f)
			p.Nodes = append(p.Nodes, api.Flow{Kind: api.JTuple, Args: args(1, theRoot)}, api.Flow{Kind: api.JCase, Args: args(1, theRoot+1)},
				api.Flow{Kind: api.JFn, Args: []int{theRoot + 2}}, api.Flow{Kind: api.JFix, Vars: []int{7}, Args: []int{theRoot + 3, aMove}})
			for _, p.Root = range []int{theRoot + 1, theRoot + 2, theRoot + 4} {
				if e := Check(p); e != c.want {
					t.Errorf("%s, further down: %d; want %d", name, e, c.want)
				}
			}
			// And where the root is not made of it.
			p.Root = aMove
			right(t, name+", behind the root", p)
			p.Nodes, p.Root = append(p.Nodes, api.Flow{Kind: api.JHalt, Args: args(1)}), len(p.Nodes)
			right(t, name+", beside the root", p)
		}
	}
}

// P13.1: each atom's form; what an atom has beside it plays no part.
func TestAtoms(t *testing.T) {
	long := strings.Repeat("a", api.MaxString+1)
	for name, c := range map[string]form{
		"an int":               {api.Flow{Kind: api.JInt, Int: api.MaxFix}, 0},
		"the least int":        {api.Flow{Kind: api.JInt, Int: api.MinFix}, 0},
		"an int above":         {api.Flow{Kind: api.JInt, Int: api.MaxFix + 1}, api.ErrMove},
		"an int below":         {api.Flow{Kind: api.JInt, Int: api.MinFix - 1}, api.ErrMove},
		"a real":               {api.Flow{Kind: api.JReal, Bits: ^uint64(0)}, 0},
		"a string":             {api.Flow{Kind: api.JStr, Text: long[1:]}, 0},
		"a long string":        {api.Flow{Kind: api.JStr, Text: long}, api.ErrMove},
		"a variable":           {api.Flow{Kind: api.JVar, N: 5}, 0},
		"another variable":     {api.Flow{Kind: api.JVar, N: 6}, api.ErrFree},
		"a far variable":       {api.Flow{Kind: api.JVar, N: 1<<63 - 1}, api.ErrFree},
		"a variable below 0":   {api.Flow{Kind: api.JVar, N: -1}, api.ErrMove},
		"an int with Args":     {api.Flow{Kind: api.JInt, Args: []int{9, -1}, N: -1, M: -1, Text: long}, 0},
		"a real with Args":     {api.Flow{Kind: api.JReal, Args: []int{9}, Vars: []int{-1}, Int: -1 << 63}, 0},
		"a string with Args":   {api.Flow{Kind: api.JStr, Args: []int{-9}, Keys: []api.Key{{}}}, 0},
		"a variable with Args": {api.Flow{Kind: api.JVar, N: 5, Args: []int{1 << 62}, Int: -1 << 63}, 0},
	} {
		for _, root := range []api.Flow{
			{Kind: api.JHalt, Args: []int{0}}, {Kind: api.JFail, Args: []int{0}}, {Kind: api.JCall, Args: []int{1, 0}}, {Kind: api.JCall, Args: []int{0}}, {Kind: api.JCase, Args: []int{0, 2}},
			{Kind: api.JTuple, Args: []int{1, 0, 2}}, {Kind: api.JCon, Args: []int{0, 2}}, {Kind: api.JField, Args: []int{0, 2}}, {Kind: api.JPrim, M: placeOf("+"), Args: []int{1, 0, 2, 2}},
		} {
			l := append([]api.Flow{c.f}, three()[0], api.Flow{Kind: api.JHalt, Args: []int{1}}, root, api.Flow{Kind: api.JCon, N: 5, Args: []int{1, 3}})
			if p := (api.Cps{Nodes: l, Root: 4}); c.want == api.OK {
				right(t, name, p)
			} else {
				faulty(t, name, p, c.want)
			}
		}
	}
}

// P13.1: each function's form, and where functions stand.
func TestFunctions(t *testing.T) {
	twice := rising(9)
	twice[8] = 3
	for name, c := range map[string]form{
		"no parameter":        {api.Flow{Args: []int{aMove}}, 0},
		"the most":            {api.Flow{Vars: rising(api.MaxArity), Args: []int{aMove}}, 0},
		"more":                {api.Flow{Vars: rising(api.MaxArity + 1), Args: []int{aMove}}, api.ErrMove},
		"one below 0":         {api.Flow{Vars: []int{3, -1}, Args: []int{aMove}}, api.ErrMove},
		"equal ones":          {api.Flow{Vars: []int{3, 3}, Args: []int{aMove}}, api.ErrMove},
		"equal ones far off":  {api.Flow{Vars: twice, Args: []int{aMove}}, api.ErrMove},
		"no body":             {api.Flow{Vars: []int{3}}, api.ErrMove},
		"two bodies":          {api.Flow{Vars: []int{3}, Args: []int{aMove, aMove}}, api.ErrMove},
		"an atom for a body":  {api.Flow{Vars: []int{3}, Args: []int{anAtom}}, api.ErrMove},
		"a function for it":   {api.Flow{Vars: []int{3}, Args: []int{aFn}}, api.ErrMove},
		"itself for it":       {api.Flow{Vars: []int{3}, Args: []int{theRoot}}, api.ErrMove},
		"what plays no part":  {api.Flow{N: -1, M: -1, Int: -1 << 63, Keys: []api.Key{{}}, Args: []int{aMove}}, 0},
		"its own as a fix's":  {api.Flow{Vars: []int{7}, Args: []int{aMove}}, 0},
		"a body behind it":    {api.Flow{Args: []int{theRoot + 1}}, api.ErrMove},
		"a body that is none": {api.Flow{Args: []int{-1}}, api.ErrMove},
	} {
		c.f.Kind = api.JFn
		l := append(three(), c.f, api.Flow{Kind: api.JFix, Vars: []int{7}, Args: []int{theRoot, aMove}})
		if p := (api.Cps{Nodes: l, Root: theRoot + 1}); c.want == api.OK {
			right(t, name, p)
		} else {
			faulty(t, name, p, c.want)
		}
		faulty(t, name+", as the root", api.Cps{Nodes: l, Root: theRoot}, api.ErrMove)
	}
}

// P13.1: the root.
func TestRoots(t *testing.T) {
	faulty(t, "no nodes", api.Cps{}, api.ErrMove)
	for _, root := range []int{-1, 3, 4, 1 << 62, -1 << 63, anAtom, aFn} {
		faulty(t, "no root", api.Cps{Nodes: three(), Root: root}, api.ErrMove)
	}
	right(t, "a root", api.Cps{Nodes: three(), Root: aMove})
	for kind := api.JVar; kind <= api.JStr; kind++ {
		faulty(t, "an atom", api.Cps{Nodes: []api.Flow{{Kind: kind}}}, api.ErrMove)
	}
}

// P13.1: where several errors apply the first one of the list is told, wherever they stand.
func TestErrorsInOrder(t *testing.T) {
	form := api.Flow{Kind: api.JTuple}
	up := api.Flow{Kind: api.JHalt, Args: []int{99}}
	prim := api.Flow{Kind: api.JPrim, M: -1}
	fewer := api.Flow{Kind: api.JPrim, M: placeOf("+"), Args: []int{0, 0, 2}}
	free := api.Flow{Kind: api.JHalt, Args: []int{1}}
	filler := make([]api.Flow, api.MaxNodes)
	for name, c := range map[string]struct {
		l    []api.Flow
		many bool
		want api.Errno
	}{
		"form and prim":  {[]api.Flow{form, prim}, false, api.ErrMove},
		"prim and form":  {[]api.Flow{prim, form}, false, api.ErrMove},
		"fewer and form": {[]api.Flow{fewer, form}, false, api.ErrMove},
		"prim and up":    {[]api.Flow{prim, up}, false, api.ErrMove},
		"up and prim":    {[]api.Flow{up, prim}, false, api.ErrMove},
		"form and free":  {[]api.Flow{form, free}, false, api.ErrMove},
		"free and form":  {[]api.Flow{free, form}, false, api.ErrMove},
		"form and many":  {[]api.Flow{form}, true, api.ErrMove},
		"up and many":    {[]api.Flow{up}, true, api.ErrMove},
		"prim and free":  {[]api.Flow{prim, free}, false, api.ErrPrims},
		"free and fewer": {[]api.Flow{free, fewer}, false, api.ErrPrims},
		"prim and many":  {[]api.Flow{prim}, true, api.ErrPrims},
		"fewer and many": {[]api.Flow{fewer}, true, api.ErrPrims},
		"free and many":  {[]api.Flow{free}, true, api.ErrMany},
		"many":           {nil, true, api.ErrMany},
		"free":           {[]api.Flow{free}, false, api.ErrFree},
		"all":            {[]api.Flow{free, prim, form}, true, api.ErrMove},
		"all but form":   {[]api.Flow{free, fewer}, true, api.ErrPrims},
	} {
		l := []api.Flow{{Kind: api.JInt}, {Kind: api.JVar, N: 20}, {Kind: api.JHalt, Args: []int{0}}}
		l = append(l, c.l...)
		root := api.Flow{Kind: api.JCase, Args: []int{0}}
		for i := range c.l {
			root.Keys = append(root.Keys, kInt(int64(i)))
			root.Args = append(root.Args, 3+i)
		}
		l = append(l, root)
		p := api.Cps{Nodes: l, Root: len(l) - 1}
		if c.many {
			p.Nodes = append(p.Nodes, filler...)
		}
		faulty(t, name, p, c.want)
	}
	faulty(t, "no root and many", api.Cps{Nodes: append(filler, api.Flow{}), Root: -1}, api.ErrMove)
	faulty(t, "an atom and many", api.Cps{Nodes: append([]api.Flow{{Kind: api.JInt}}, filler...)}, api.ErrMove)
}

// P13.1: as many nodes as there may be, and one more; all of them count, and the root may be made of all, however deeply.
func TestManyNodes(t *testing.T) {
	l := make([]api.Flow, api.MaxNodes+1)
	copy(l, three())
	for i := 2; i < len(l); i++ {
		l[i] = api.Flow{Kind: api.JTuple, N: i, Args: []int{0, i - 1}}
	}
	right(t, "all", api.Cps{Nodes: l[:api.MaxNodes], Root: api.MaxNodes - 1})
	right(t, "one of them", api.Cps{Nodes: l[:api.MaxNodes], Root: 1})
	faulty(t, "one more", api.Cps{Nodes: l, Root: api.MaxNodes}, api.ErrMany)
	faulty(t, "one more that plays no part", api.Cps{Nodes: l, Root: 1}, api.ErrMany)
	o, _ := Run(api.Cps{Nodes: l[:api.MaxNodes], Root: api.MaxNodes - 1}, nil, api.MaxFuel)
	if o.Status != api.Done || o.Steps != api.MaxNodes-1 {
		t.Errorf("%s, %d steps", showOutcome(o), o.Steps)
	}
}

// P13.1: what is bound, and where; the variables of a program are those of its places.
func TestScopes(t *testing.T) {
	for name, c := range map[string]struct {
		write func(d *desk) int
		want  api.Errno
	}{
		"behind a tuple":         {func(d *desk) int { return d.tuple(20, d.i(1), d.halt(d.v(20))) }, 0},
		"in a tuple":             {func(d *desk) int { return d.tuple(20, d.v(20), d.halt(d.i(1))) }, api.ErrFree},
		"another one":            {func(d *desk) int { return d.tuple(20, d.i(1), d.halt(d.v(21))) }, api.ErrFree},
		"behind a constructor":   {func(d *desk) int { return d.con(20, 1, d.i(1), d.halt(d.v(20))) }, 0},
		"in a constructor":       {func(d *desk) int { return d.con(20, 1, d.v(20), d.halt(d.i(1))) }, api.ErrFree},
		"behind a field":         {func(d *desk) int { return d.field(20, 0, d.i(1), d.halt(d.v(20))) }, 0},
		"in a field":             {func(d *desk) int { return d.field(20, 0, d.v(20), d.halt(d.i(1))) }, api.ErrFree},
		"behind a primitive":     {func(d *desk) int { return d.prim(20, "<", d.i(1), d.i(1), d.halt(d.v(20))) }, 0},
		"in a primitive":         {func(d *desk) int { return d.prim(20, "<", d.i(1), d.v(20), d.halt(d.i(1))) }, api.ErrFree},
		"when it raises":         {func(d *desk) int { return d.prim(20, "+", d.i(1), d.i(1), d.done(), d.halt(d.v(20))) }, 0},
		"another when it raises": {func(d *desk) int { return d.prim(20, "+", d.i(1), d.i(1), d.done(), d.halt(d.v(21))) }, api.ErrFree},
		"an exception's number":  {func(d *desk) int { return d.prim(20, "+", d.i(1), d.i(1), d.done(), d.halt(d.v(6))) }, api.ErrFree},
		"a function's parameter": {func(d *desk) int { return d.fix([]int{9}, d.fn([]int{20}, d.halt(d.v(20))), d.done()) }, 0},
		"its second one":         {func(d *desk) int { return d.fix([]int{9}, d.fn([]int{8, 20}, d.halt(d.v(20))), d.done()) }, 0},
		"none of its own":        {func(d *desk) int { return d.fix([]int{9}, d.fn([]int{20}, d.halt(d.v(21))), d.done()) }, api.ErrFree},
		"a parameter outside":    {func(d *desk) int { return d.fix([]int{9}, d.fn([]int{20}, d.done()), d.halt(d.v(20))) }, api.ErrFree},
		"a fix in itself":        {func(d *desk) int { return d.fix([]int{9}, d.fn(nil, d.halt(d.v(9))), d.done()) }, 0},
		"a fix in the other": {func(d *desk) int {
			return d.fix([]int{8, 9}, d.fn(nil, d.halt(d.v(9))), d.fn(nil, d.halt(d.v(8))), d.done())
		}, 0},
		"behind a fix": {func(d *desk) int { return d.fix([]int{8, 9}, d.fn(nil, d.done()), d.fn(nil, d.done()), d.halt(d.v(8))) }, 0},
		"a case":       {func(d *desk) int { return d.choose(nil, d.v(20), d.done()) }, api.ErrFree},
		"a branch":     {func(d *desk) int { return d.choose([]api.Key{kInt(1)}, d.i(1), d.done(), d.halt(d.v(20))) }, api.ErrFree},
		"free at one of two": {func(d *desk) int {
			x := d.halt(d.v(20))
			return d.choose([]api.Key{kInt(1)}, d.i(1), d.tuple(20, d.i(1), x), x)
		}, api.ErrFree},
		"free at the first place": {func(d *desk) int {
			x := d.halt(d.v(20))
			return d.choose([]api.Key{kInt(1)}, d.i(1), x, d.tuple(20, d.i(1), x))
		}, api.ErrFree},
		"bound at two places": {func(d *desk) int {
			x := d.halt(d.v(20))
			return d.choose([]api.Key{kInt(1)}, d.i(1), d.con(20, 1, d.i(1), x), d.tuple(20, d.i(1), x))
		}, 0},
		"an atom within, without":   {func(d *desk) int { x := d.v(20); return d.tuple(20, x, d.halt(x)) }, api.ErrFree},
		"bound again by its own":    {func(d *desk) int { x := d.v(20); return d.tuple(20, d.i(1), d.tuple(20, x, d.halt(x))) }, 0},
		"a far variable":            {func(d *desk) int { return d.tuple(1<<63-1, d.i(1), d.halt(d.v(1<<63-1))) }, 0},
		"the variable 0":            {func(d *desk) int { return d.tuple(0, d.i(1), d.halt(d.v(0))) }, 0},
		"the variable 0, free":      {func(d *desk) int { return d.tuple(1, d.i(1), d.halt(d.v(0))) }, api.ErrFree},
		"a packet":                  {func(d *desk) int { return d.fail(d.v(20)) }, api.ErrFree},
		"a function that is called": {func(d *desk) int { return d.call(d.v(20), d.i(1)) }, api.ErrFree},
	} {
		d := &desk{}
		root := c.write(d)
		if e := Check(d.program(root)); e != c.want {
			t.Errorf("%s: %d; want %d", name, e, c.want)
		}
	}
}
