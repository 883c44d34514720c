package match

import (
	"reflect"
	"testing"

	"kiln/api"
)

// P9.4: trees that nobody's Compile made.
func TestRun(t *testing.T) {
	leaf := func(row int) api.Choice { return api.Choice{Kind: api.CLeaf, Row: row} }
	fail := api.Choice{Kind: api.CFail}
	test := func(path []int, keys []api.Datum, next []int, other int) api.Choice {
		return api.Choice{Kind: api.CTest, Path: path, Keys: keys, Next: next, Else: other}
	}
	keys := func(l ...api.Datum) []api.Datum { return l }
	list := wList(5, 6)
	odd := api.Datum{Kind: 9, Args: []api.Datum{wInt(1)}}
	for name, c := range map[string]struct {
		l    []api.Choice
		root int
		v    api.Datum
		row  int
		ok   bool
	}{
		"a leaf":                          {[]api.Choice{leaf(3)}, 0, wInt(1), 3, true},
		"a leaf below":                    {[]api.Choice{leaf(3), leaf(4)}, 0, wInt(1), 3, true},
		"a leaf of no row":                {[]api.Choice{leaf(-3)}, 0, api.Datum{}, -3, true},
		"a fail":                          {[]api.Choice{fail}, 0, wInt(1), 0, false},
		"a fail with a row":               {[]api.Choice{{Kind: api.CFail, Row: 5}}, 0, wInt(1), 0, false},
		"no nodes":                        {nil, 0, wInt(1), 0, false},
		"no root":                         {[]api.Choice{leaf(3)}, 1, wInt(1), 0, false},
		"a root below":                    {[]api.Choice{leaf(3)}, -1, wInt(1), 0, false},
		"no kind":                         {[]api.Choice{{Row: 3}}, 0, wInt(1), 0, false},
		"a kind above":                    {[]api.Choice{{Kind: 4, Row: 3}}, 0, wInt(1), 0, false},
		"a key":                           {[]api.Choice{leaf(3), leaf(4), test(nil, keys(wInt(1), wInt(2)), []int{0, 1}, -1)}, 2, wInt(2), 4, true},
		"no key":                          {[]api.Choice{leaf(3), leaf(4), test(nil, keys(wInt(1), wInt(2)), []int{0, 1}, -1)}, 2, wInt(3), 0, false},
		"else":                            {[]api.Choice{leaf(3), leaf(4), test(nil, keys(wInt(1)), []int{0}, 1)}, 2, wInt(3), 4, true},
		"else, no keys":                   {[]api.Choice{leaf(3), test(nil, nil, nil, 0)}, 1, wInt(3), 3, true},
		"else that is none":               {[]api.Choice{leaf(3), test(nil, nil, nil, 7)}, 1, wInt(3), 0, false},
		"else below":                      {[]api.Choice{leaf(3), test(nil, nil, nil, -2)}, 1, wInt(3), 0, false},
		"else that is not lower":          {[]api.Choice{leaf(3), test(nil, nil, nil, 1)}, 1, wInt(3), 0, false},
		"else above":                      {[]api.Choice{leaf(3), test(nil, nil, nil, 2), leaf(4)}, 1, wInt(3), 0, false},
		"a next that is none":             {[]api.Choice{leaf(3), test(nil, keys(wInt(1)), []int{9}, 0)}, 1, wInt(1), 0, false},
		"a next of -1":                    {[]api.Choice{leaf(3), test(nil, keys(wInt(1)), []int{-1}, 0)}, 1, wInt(1), 0, false},
		"a next that is not lower":        {[]api.Choice{leaf(3), test(nil, keys(wInt(1)), []int{1}, 0)}, 1, wInt(1), 0, false},
		"the same key twice":              {[]api.Choice{leaf(3), leaf(4), test(nil, keys(wInt(1), wInt(1)), []int{0, 1}, -1)}, 2, wInt(1), 3, true},
		"the same key, the first is none": {[]api.Choice{leaf(3), leaf(4), test(nil, keys(wInt(1), wInt(1)), []int{-1, 1}, 0)}, 2, wInt(1), 0, false},
		"a key without a next":            {[]api.Choice{leaf(3), leaf(4), test(nil, keys(wInt(1), wInt(2)), []int{0}, 1)}, 2, wInt(2), 4, true},
		"keys without nexts":              {[]api.Choice{leaf(3), test(nil, keys(wInt(1), wInt(2)), nil, 0)}, 1, wInt(2), 3, true},
		"nexts without keys":              {[]api.Choice{leaf(3), leaf(4), test(nil, nil, []int{0, 0}, 1)}, 2, wInt(2), 4, true},
		"a text":                          {[]api.Choice{leaf(3), leaf(4), test(nil, keys(wStr("a"), wStr("")), []int{0, 1}, -1)}, 2, wStr(""), 4, true},
		"another text":                    {[]api.Choice{leaf(3), test(nil, keys(wStr("a")), []int{0}, -1)}, 1, wStr("b"), 0, false},
		"a constructor":                   {[]api.Choice{leaf(3), test(nil, keys(wCon(1)), []int{0}, -1)}, 1, list, 3, true},
		"another constructor":             {[]api.Choice{leaf(3), test(nil, keys(wCon(0)), []int{0}, -1)}, 1, list, 0, false},
		"an exception":                    {[]api.Choice{leaf(3), test(nil, keys(wExn(8)), []int{0}, -1)}, 1, wExn(8), 3, true},
		"another exception":               {[]api.Choice{leaf(3), test(nil, keys(wExn(8)), []int{0}, -1)}, 1, wExn(9), 0, false},
		"another kind":                    {[]api.Choice{leaf(3), test(nil, keys(wExn(1)), []int{0}, -1)}, 1, list, 0, false},
		"a key with other fields":         {[]api.Choice{leaf(3), test(nil, keys(api.Datum{Kind: api.WCon, N: 1, Int: 4, Text: "x", Args: keys(wInt(9))}), []int{0}, -1)}, 1, list, 3, true},
		"an int with other fields":        {[]api.Choice{leaf(3), test(nil, keys(api.Datum{Kind: api.WInt, N: 1, Int: 4, Text: "x"}), []int{0}, -1)}, 1, wInt(4), 3, true},
		"a text with other fields":        {[]api.Choice{leaf(3), test(nil, keys(api.Datum{Kind: api.WStr, N: 1, Int: 4, Text: "x"}), []int{0}, -1)}, 1, wStr("x"), 3, true},
		"a record":                        {[]api.Choice{leaf(3), test(nil, keys(wRec()), []int{0}, -1)}, 1, wRec(wInt(1)), 3, true},
		"a path":                          {[]api.Choice{leaf(3), test([]int{0, 0}, keys(wInt(5)), []int{0}, -1)}, 1, list, 3, true},
		"a path down":                     {[]api.Choice{leaf(3), test([]int{0, 1, 0, 0}, keys(wInt(6)), []int{0}, -1)}, 1, list, 3, true},
		"a path that leads nowhere":       {[]api.Choice{leaf(3), test([]int{0, 2}, nil, nil, 0)}, 1, list, 0, false},
		"a path below":                    {[]api.Choice{leaf(3), test([]int{0, -1}, nil, nil, 0)}, 1, list, 0, false},
		"a path below -1 of a con":        {[]api.Choice{leaf(3), test([]int{-1}, nil, nil, 0)}, 1, list, 0, false},
		"a path into no argument":         {[]api.Choice{leaf(3), test([]int{0}, nil, nil, 0)}, 1, wCon(0), 0, false},
		"a path into a second argument":   {[]api.Choice{leaf(3), test([]int{1}, nil, nil, 0)}, 1, wCon(0, wInt(1), wInt(2)), 0, false},
		"a path into an exception":        {[]api.Choice{leaf(3), test([]int{0}, keys(wInt(1)), []int{0}, -1)}, 1, wExn(0, wInt(1)), 3, true},
		"a path into an int":              {[]api.Choice{leaf(3), test([]int{0}, nil, nil, 0)}, 1, api.Datum{Kind: api.WInt, Args: list.Args}, 0, false},
		"a path into a text":              {[]api.Choice{leaf(3), test([]int{0}, nil, nil, 0)}, 1, api.Datum{Kind: api.WStr, Args: list.Args}, 0, false},
		"a path into what is none":        {[]api.Choice{leaf(3), test([]int{0}, nil, nil, 0)}, 1, odd, 0, false},
		"a path from a part on":           {[]api.Choice{leaf(3), test([]int{0, 0}, nil, nil, 0), test([]int{0, 1}, keys(wCon(1)), []int{1}, -1)}, 2, list, 3, true},
		"a leaf with a path too many":     {[]api.Choice{{Kind: api.CLeaf, Row: 1, Paths: [][]int{{}}}}, 0, list, 0, false},
		"a leaf with a path too few":      {[]api.Choice{{Kind: api.CLeaf, Row: 1, Vars: []int{1, 2}, Paths: [][]int{{}}}}, 0, list, 0, false},
		"a leaf with a path to nowhere":   {[]api.Choice{{Kind: api.CLeaf, Row: 1, Vars: []int{1, 2}, Paths: [][]int{{}, {0, 9}}}}, 0, list, 0, false},
		"a leaf with other fields":        {[]api.Choice{{Kind: api.CLeaf, Row: 1, Path: []int{7}, Keys: keys(wInt(1)), Next: []int{5}, Else: 4}}, 0, list, 1, true},
	} {
		if i, b, ok := Run(c.l, c.root, c.v); i != c.row || ok != c.ok || len(b) != 0 {
			t.Errorf("%s: %d, %s, %v", name, i, showBinds(b), ok)
		}
	}
}

// P9.4: variables of a leaf, in order.
func TestRunVariables(t *testing.T) {
	v := wTail(odd(), 5, 6)
	l := []api.Choice{{Kind: api.CLeaf, Row: 2, Vars: []int{4, -3, 4, 0}, Paths: [][]int{{0, 0}, nil, {0, 1, 0, 0}, {0, 1, 0, 1}}}}
	want := []api.Bind{{Var: 4, Val: wInt(5)}, {Var: -3, Val: v}, {Var: 4, Val: wInt(6)}, {Var: 0, Val: odd()}}
	if i, b, ok := Run(l, 0, v); i != 2 || !ok || !reflect.DeepEqual(b, want) {
		t.Errorf("%d, %s, %v", i, showBinds(b), ok)
	}
}

// odd is something that is no value.
func odd() api.Datum {
	return api.Datum{Kind: 17, N: -1, Int: 3, Text: "odd", Args: []api.Datum{{}, wInt(3)}}
}
