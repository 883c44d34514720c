package values

import (
	"math/rand"
	"runtime"
	"testing"

	"kiln/api"
)

// P11.3: a cell's row is one of values that stand by themselves.
func TestRows(t *testing.T) {
	for _, size := range []int{0, 1, 2, page - 1, page, page + 1, 2*page + 5, 1000} {
		r := rand.New(rand.NewSource(int64(size)))
		c, want := newCell(size, Int(-1)), make([]Value, size)
		for i := range want {
			want[i] = Int(-1)
		}
		for n := range 3 * size {
			if i := r.Intn(size); c.set(i, Int(n)) {
				want[i] = Int(n)
			}
			if i := r.Intn(size); i%3 == 0 {
				if v, ok := c.get(i); !ok || v != want[i] {
					t.Fatalf("of %d at %d: %v, %v", size, i, v, ok)
				}
			}
		}
		for i := -2; i < size+page+2; i++ {
			v, ok := c.get(i)
			if has := i >= 0 && i < size; ok != has || ok && v != want[i] || !ok && (v != nil || c.set(i, Int(0))) {
				t.Errorf("of %d at %d: %v, %v", size, i, v, ok)
			}
		}
	}
}

// Rule 1: an array of MaxCells costs no more than what is set in it, so that many of them do no harm.
func TestLargeRows(t *testing.T) {
	var before, after runtime.MemStats
	runtime.ReadMemStats(&before)
	var l []*Cell
	for i := range 10000 {
		c := newCell(api.MaxCells, Int(5))
		if !c.set(1, Int(0)) || !c.set(api.MaxCells-1, Int(int64(i))) || c.set(api.MaxCells, Int(0)) {
			t.Fatal("set")
		}
		l = append(l, c)
	}
	runtime.ReadMemStats(&after)
	if used := after.TotalAlloc - before.TotalAlloc; used > 1<<28 {
		t.Errorf("%d bytes", used)
	}
	for i, c := range l {
		last, _ := c.get(api.MaxCells - 1)
		other, _ := c.get(api.MaxCells - 2)
		if last != Value(Int(int64(i))) || other != Value(Int(5)) {
			t.Fatalf("%v, %v", last, other)
		}
	}
}
