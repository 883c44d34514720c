package vars

import (
	"maps"
	"math/rand"
	"slices"
	"testing"
	"time"
)

// told is Free of a node of a list.
func told(l []Node, root int) []int { return Free(root, func(i int) Node { return l[i] }) }

// model is what is free in a node by the words: what it has, and what is free in the nodes of which it is made but what it binds there.
func model(l []Node, root int) []int {
	sets := make([]map[int]bool, root+1)
	for i := range sets {
		set := map[int]bool{}
		for _, a := range l[i].In {
			if a >= 0 && a < i {
				maps.Copy(set, sets[a])
			}
		}
		for _, v := range l[i].Binds {
			delete(set, v)
		}
		for _, a := range l[i].Out {
			if a >= 0 && a < i {
				maps.Copy(set, sets[a])
			}
		}
		for _, v := range l[i].Has {
			set[v] = true
		}
		sets[i] = set
	}
	return slices.Sorted(maps.Keys(sets[root]))
}

func TestFree(t *testing.T) {
	a, b := Node{Has: []int{5}}, Node{Has: []int{3, 3, 5}}
	for name, c := range map[string]struct {
		l    []Node
		want []int
	}{
		"none":                {[]Node{{}}, nil},
		"its own":             {[]Node{b}, []int{3, 5}},
		"rising, each once":   {[]Node{a, b, {Has: []int{4, -2}, Out: []int{0, 1, 0}}}, []int{-2, 3, 4, 5}},
		"bound":               {[]Node{a, {Binds: []int{5}, In: []int{0}}}, nil},
		"bound elsewhere":     {[]Node{a, {Binds: []int{5}, Out: []int{0}}}, []int{5}},
		"its own and bound":   {[]Node{a, {Has: []int{5}, Binds: []int{5}, In: []int{0}}}, []int{5}},
		"one of two":          {[]Node{b, {Binds: []int{5}, In: []int{0}}}, []int{3}},
		"twice bound":         {[]Node{b, {Binds: []int{3, 3, 5}, In: []int{0}}}, nil},
		"bound within":        {[]Node{a, {Binds: []int{5}, In: []int{0}}, {Out: []int{1}}, {Out: []int{2, 0}}}, []int{5}},
		"bound ahead":         {[]Node{a, {Binds: []int{5}, In: []int{0}}, {Out: []int{1, 0}}}, []int{5}},
		"bound behind":        {[]Node{a, {Binds: []int{5}, In: []int{0}}, {Out: []int{0, 1}}}, []int{5}},
		"not below the root":  {[]Node{a, {Has: []int{7}}}, []int{7}},
		"not lower":           {[]Node{a, {Out: []int{1, 2, -1, 9}, In: []int{1, 0, -5}}}, []int{5}},
		"shared, bound":       {[]Node{a, {Out: []int{0}}, {Binds: []int{5}, In: []int{1}}, {Binds: []int{5}, In: []int{1}}, {Out: []int{2, 3}}}, nil},
		"shared, free first":  {[]Node{a, {Out: []int{0}}, {Binds: []int{5}, In: []int{1}}, {Out: []int{1, 2}}}, []int{5}},
		"shared, free behind": {[]Node{a, {Out: []int{0}}, {Binds: []int{5}, In: []int{1}}, {Out: []int{2, 1}}}, []int{5}},
		"shared, in and out":  {[]Node{a, {Out: []int{0}}, {Binds: []int{5}, Out: []int{1}, In: []int{1}}}, []int{5}},
	} {
		got := told(c.l, len(c.l)-1)
		if !slices.Equal(got, c.want) {
			t.Errorf("%s: %v; want %v", name, got, c.want)
		}
		if want := model(c.l, len(c.l)-1); !slices.Equal(want, c.want) {
			t.Errorf("%s: the model tells %v", name, want)
		}
	}
}

// random is nodes at random, of which some stand at several places.
func random(r *rand.Rand, size, variables int) []Node {
	some := func(most, bound int) []int {
		var l []int
		for range r.Intn(most + 1) {
			l = append(l, r.Intn(bound))
		}
		return l
	}
	var l []Node
	for i := range size {
		n := Node{}
		if i == 0 || r.Intn(3) == 0 {
			n.Has = some(2, variables)
		}
		if i > 0 {
			n.Out = some(2, i)
			n.Binds = some(3, variables)
			n.In = some(2, i)
			for range r.Intn(3) {
				n.In = append(n.In, max(0, i-1-r.Intn(3)))
			}
		}
		l = append(l, n)
	}
	return l
}

func TestRandom(t *testing.T) {
	for seed := range 3000 {
		r := rand.New(rand.NewSource(int64(seed)))
		l := random(r, 1+r.Intn(40), 1+r.Intn(20))
		for root := range l {
			if got, want := told(l, root), model(l, root); !slices.Equal(got, want) {
				t.Fatalf("seed %d: %v of %d: %v; want %v", seed, l, root, got, want)
			}
		}
	}
}

// More variables than are settled at once.
func TestManyVariables(t *testing.T) {
	for _, size := range []int{wide - 1, wide, wide + 1, 3 * wide} {
		// All are bound in one place where the last node but one stands, and in another all but every third.
		var all, most []int
		for v := range size {
			all = append(all, v)
			if v%3 > 0 {
				most = append(most, v)
			}
		}
		l := []Node{{Has: all}, {Out: []int{0}}, {Binds: all, In: []int{1}}, {Binds: most, In: []int{1}}, {Out: []int{2, 3}}}
		if got := told(l, 4); len(got) != (size+2)/3 || !slices.Equal(got, model(l, 4)) {
			t.Errorf("%d: %d are free", size, len(got))
		}
		if got := told(l, 2); len(got) != 0 {
			t.Errorf("%d: %d are free", size, len(got))
		}
	}
}

// What is large, nested deeply, or shared over and over is gone over soon.
func TestLarge(t *testing.T) {
	begin := time.Now()
	const size = 80000
	l := []Node{{Has: []int{0}}}
	for v := 1; v < size; v++ {
		l = append(l, Node{Has: []int{v}, Out: []int{len(l) - 1}})
	}
	bottom := len(l) - 1
	for v := range size {
		l = append(l, Node{Binds: []int{v}, In: []int{len(l) - 1}})
	}
	if got := told(l, len(l)-1); len(got) != 0 {
		t.Errorf("%d are free", len(got))
	}
	l = append(l, Node{Out: []int{len(l) - 1, len(l) - 1}})
	if got := told(l, len(l)-1); len(got) != 0 {
		t.Errorf("%d are free", len(got))
	}
	l = append(l, Node{Out: []int{len(l) - 1, bottom}})
	if got := told(l, len(l)-1); len(got) != size {
		t.Errorf("%d are free", len(got))
	}
	for range 100 {
		l = append(l, Node{Out: []int{len(l) - 1, len(l) - 1, len(l) - 1}})
	}
	if got := told(l, len(l)-1); len(got) != size {
		t.Errorf("%d are free", len(got))
	}
	if d := time.Since(begin); d > time.Minute {
		t.Errorf("%v", d)
	}
}

// What is handed in stays as it is, and the answer is one's own.
func TestOwn(t *testing.T) {
	l := []Node{{Has: []int{9, 1}}, {Out: []int{5, 0, -1}, Binds: []int{9}, In: []int{1, 0}}, {Has: []int{3}, Out: []int{1, 1}}}
	var c []Node
	for _, n := range l {
		c = append(c, Node{slices.Clone(n.Has), slices.Clone(n.Out), slices.Clone(n.Binds), slices.Clone(n.In)})
	}
	got := told(l, 2)
	for i := range l {
		if !slices.Equal(l[i].Has, c[i].Has) || !slices.Equal(l[i].Out, c[i].Out) || !slices.Equal(l[i].Binds, c[i].Binds) || !slices.Equal(l[i].In, c[i].In) {
			t.Errorf("the node %d was changed", i)
		}
	}
	clear(got)
	if again := told(l, 2); !slices.Equal(again, []int{1, 3, 9}) {
		t.Errorf("%v", again)
	}
	one := []Node{{Has: []int{4, 8}}}
	clear(told(one, 0))
	if !slices.Equal(one[0].Has, []int{4, 8}) {
		t.Error("the answer shares memory with an argument")
	}
}
