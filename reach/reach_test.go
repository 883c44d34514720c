package reach

import (
	"slices"
	"testing"
)

// lists are nodes whose parts are these.
func lists(l ...[]int) func(int) []int { return func(i int) []int { return l[i] } }

// Of which nodes roots are made.
func TestFrom(t *testing.T) {
	parts := lists(nil, nil, []int{0}, []int{1, 1}, []int{2}, []int{9}, []int{6}, []int{-1}, nil)
	for name, c := range map[string]struct {
		roots []int
		want  []bool
		ok    bool
	}{
		"a leaf":              {[]int{1}, []bool{false, true}, true},
		"a node":              {[]int{3}, []bool{false, true, false, true}, true},
		"deeper":              {[]int{4}, []bool{true, false, true, false, true}, true},
		"two":                 {[]int{3, 2}, []bool{true, true, true, true}, true},
		"two that are equal":  {[]int{0, 0}, []bool{true}, true},
		"none":                {nil, nil, true},
		"the last":            {[]int{8}, []bool{false, false, false, false, false, false, false, false, true}, true},
		"a root behind all":   {[]int{0, 9}, nil, false},
		"a root ahead of all": {[]int{0, -1}, nil, false},
		"a part above":        {[]int{5}, nil, false},
		"a part that is it":   {[]int{6}, nil, false},
		"a part below 0":      {[]int{7}, nil, false},
		"a far root":          {[]int{1 << 62}, nil, false},
	} {
		got, ok := From(c.roots, 9, parts)
		if ok != c.ok || !slices.Equal(got, c.want) {
			t.Errorf("%s: %v, %t", name, got, ok)
		}
	}
}

// All asks of all that are meant, and of no others.
func TestAll(t *testing.T) {
	below := func(n int) func(int) bool { return func(i int) bool { return i < n } }
	made := []bool{true, false, true, false}
	if !All(made, below(3)) || All(made, below(2)) || !All(nil, below(0)) || All(made, below(0)) {
		t.Error("All")
	}
}
