package vars

import (
	"maps"
	"math/rand"
	"testing"
)

// holds fails the test, if a scope binds other variables than it should, or to something else.
func holds(t *testing.T, s *Scope[int], want map[int]int, names int) {
	t.Helper()
	for n := range names {
		val, ok := s.Find(n)
		w, has := want[n]
		if ok != has || val != w {
			t.Fatalf("Find(%d) = %d, %v; want %d, %v", n, val, ok, w, has)
		}
	}
}

// A scope has the last binding of each variable, and stays as it is whatever is made of it.
func TestScopes(t *testing.T) {
	type kept struct {
		scope *Scope[int]
		want  map[int]int
	}
	for _, names := range []int{1, 2, 5, 6, 17, 22, 100, 1500} {
		r := rand.New(rand.NewSource(int64(names)))
		all := []kept{{nil, map[int]int{}}}
		for range 600 {
			k := all[r.Intn(len(all))]
			if r.Intn(4) > 0 {
				k = all[len(all)-1]
			}
			if r.Intn(5) == 0 {
				all = append(all, kept{k.scope.Kept(), k.want})
				continue
			}
			n, val := r.Intn(names), 1+r.Intn(1000)
			want := maps.Clone(k.want)
			want[n] = val
			all = append(all, kept{k.scope.With(n, val), want})
		}
		for i, k := range all {
			if names < 1000 || i%50 == 0 {
				holds(t, k.scope, k.want, names+3)
			}
		}
	}
}

// The scope without bindings has none.
func TestNoScope(t *testing.T) {
	var s *Scope[string]
	if val, ok := s.Find(0); val != "" || ok {
		t.Errorf("Find = %q, %v", val, ok)
	}
	if val, ok := s.Kept().Find(7); val != "" || ok {
		t.Errorf("Find = %q, %v", val, ok)
	}
	if val, ok := s.With(7, "a").Find(7); val != "a" || !ok {
		t.Errorf("Find = %q, %v", val, ok)
	}
}

// A variable may be bound to the zero value, which is not the same as to nothing.
func TestZero(t *testing.T) {
	var s *Scope[int]
	for n := range 3 * longest {
		s = s.With(2*n, 0)
	}
	for n := range 3 * longest {
		if _, ok := s.Find(2 * n); !ok {
			t.Errorf("Find(%d): none", 2*n)
		}
		if _, ok := s.Find(2*n + 1); ok {
			t.Errorf("Find(%d): something", 2*n+1)
		}
	}
}

// length is how many bindings stand in a scope's list.
func length(s *Scope[int]) int {
	n := 0
	for b := s; b != nil && b.count > 0; b = b.next {
		n++
	}
	return n
}

// No variable is far away: the list is never long, seldom begun anew, and what is kept has room in it.
func TestNear(t *testing.T) {
	var s *Scope[int]
	anew := 0
	for n := range 1000 {
		s = s.With(n, n)
		if length(s) > longest {
			t.Fatalf("%d bindings in the list", length(s))
		}
		if length(s) == 1 {
			anew++
		}
		if k := s.Kept(); length(k) > longest/2 || length(s) <= longest/2 && k != s {
			t.Fatalf("%d bindings in the list of what is kept, of %d", length(k), length(s))
		}
	}
	if anew > 1000/longest+1 {
		t.Errorf("%d lists", anew)
	}
	if s.rest.high > 3 {
		t.Errorf("the tree has %d levels", 1+s.rest.high)
	}
}

// Variables may have any numbers that a list's places may have, far apart and near one another, in any order.
func TestFarVariables(t *testing.T) {
	r := rand.New(rand.NewSource(1))
	var s *Scope[int]
	want := map[int]int{}
	for i := range 20000 {
		n := []int{r.Intn(20), 1 << r.Intn(31), 1<<31 - 1 - r.Intn(20), r.Intn(1 << 31), 5000 + i%40}[r.Intn(5)]
		s = s.With(n, i)
		want[n] = i
		if r.Intn(20) == 0 {
			s = s.Kept()
		}
	}
	for n, w := range want {
		for _, m := range []int{n - 1, n, n + 1} {
			val, ok := s.Find(m)
			if x, has := want[m]; ok != has || val != x || m == n && val != w {
				t.Fatalf("Find(%d) = %d, %v", m, val, ok)
			}
		}
	}
}

// Variables that rise, as they do where functions are long, stay where they are when the tree becomes higher.
func TestRisingVariables(t *testing.T) {
	for _, first := range []int{0, 3, 60, 500, 1 << 20} {
		var s *Scope[int]
		want := map[int]int{}
		for n := range 3000 {
			s = s.With(first+n, n)
			want[first+n] = n
			if n%400 == 70 || n == 2999 {
				for m, w := range want {
					if val, ok := s.Find(m); !ok || val != w {
						t.Fatalf("Find(%d) = %d, %v", m, val, ok)
					}
				}
				if _, ok := s.Find(first + n + 1); ok {
					t.Fatalf("Find(%d): something", first+n+1)
				}
			}
		}
	}
}
