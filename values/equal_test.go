package values

import (
	"fmt"
	"math/rand"
	"testing"

	"kiln/api"
)

// model tells whether two values are equal, by the words, and counts pairs.
type model struct {
	pairs int
	stuck bool
}

func (m *model) same(v, w Value) bool {
	m.pairs++
	switch x := v.(type) {
	case Int:
		if y, ok := w.(Int); ok {
			return x == y
		}
		if _, ok := w.(*Con); ok {
			return false
		}
	case Text:
		if y, ok := w.(Text); ok {
			return x == y
		}
	case *Con:
		if y, ok := w.(*Con); ok {
			return x.Tag == y.Tag && m.same(x.Of, y.Of)
		}
		if _, ok := w.(Int); ok {
			return false
		}
	case *Cell:
		if y, ok := w.(*Cell); ok {
			return x == y
		}
	case Tuple:
		if y, ok := w.(Tuple); ok {
			return m.parts(x, y)
		}
	}
	m.stuck = true
	return false
}

func (m *model) parts(x, y Tuple) bool {
	for i := range min(len(x), len(y)) {
		if !m.same(x[i], y[i]) {
			return false
		}
	}
	m.stuck = m.stuck || len(x) != len(y)
	return len(x) == len(y)
}

// heldEqual holds = and <> of two values against the model, with each fuel that matters.
func heldEqual(t *testing.T, v, w Value) {
	t.Helper()
	var m model
	same := m.same(v, w)
	steps := m.pairs - 1
	for fuel := range steps + 2 {
		for _, name := range []string{"=", "<>"} {
			want, counted := is(Int(0)), min(steps, fuel)
			switch {
			case fuel < steps:
				want = end(api.OutOfFuel)
			case m.stuck:
				want = end(api.Stuck)
			case same == (name == "="):
				want = is(Int(1))
			}
			s := NewState(nil, fuel)
			got := s.Do(place(t, name, -1), row(v, w))
			if n := s.Outcome(api.Done).Steps; got != want || n != counted {
				t.Fatalf("%v %s %v with %d: %v and %d steps; want %v and %d", v, name, w, fuel, got, n, want, counted)
			}
		}
	}
}

// P11.3: equal values, and which pairs are looked at.
func TestEqual(t *testing.T) {
	c := newCell(1, Int(1))
	l := []Value{Int(0), Int(1), Text(""), Text("a"), Text("ab"), c, newCell(1, Int(1)), newCell(0, Int(1)), Real(1), &struct{ n int }{1},
		Tuple{Int(1)}, Tuple{Int(1), Text("a")}, Tuple{Int(1), Text("b")}, Tuple{Int(2), Text("b")}, Tuple{Int(1), Text("a"), c}, Tuple{Tuple{Int(1)}}, Tuple{Real(1)}, Tuple{Int(2), Real(1)}, Tuple{Int(1), Real(1)},
		&Con{0, Int(0)}, &Con{1, Int(0)}, &Con{1, Int(1)}, &Con{1, Text("a")}, &Con{1, &Con{1, Int(0)}}, &Con{1, Tuple{Int(1), c}}, &Con{1, Real(1)}}
	for _, v := range l {
		for _, w := range l {
			heldEqual(t, v, w)
		}
	}
}

// P11.3: of tuples with unlike numbers of fields, of which no program that was elaborated asks, the first difference tells, and where there is none nothing can.
func TestUnlikeTuples(t *testing.T) {
	for _, c := range []primCase{
		{"=", -1, row(Tuple{Int(1)}, Tuple{Int(2), Int(3)}), is(no)}, {"<>", -1, row(Tuple{Int(2), Int(3)}, Tuple{Int(1)}), is(yes)},
		{"=", -1, row(Tuple{Int(1)}, Tuple{Int(1), Int(3)}), end(api.Stuck)}, {"<>", -1, row(Tuple{Int(1), Int(3)}, Tuple{Int(1)}), end(api.Stuck)},
	} {
		c.hold(t)
	}
}

func randomValue(r *rand.Rand, cells []Value, deep int) Value {
	switch n := r.Intn(8); {
	case n == 0 && r.Intn(30) == 0:
		return Real(1)
	case n == 1:
		return Text("a")
	case n == 2:
		return cells[r.Intn(len(cells))]
	case n <= 4 && deep > 0:
		return &Con{r.Intn(2), randomValue(r, cells, deep-1)}
	case n <= 7 && deep > 0:
		l := Tuple{randomValue(r, cells, deep-1)}
		for range r.Intn(3) {
			l = append(l, randomValue(r, cells, deep-1))
		}
		return l
	}
	return Int(r.Intn(2))
}

// turned is a value in new memory, of which perhaps a part is another one.
func turned(r *rand.Rand, cells []Value, v Value) Value {
	if r.Intn(12) == 0 {
		return randomValue(r, cells, 2)
	}
	switch x := v.(type) {
	case *Con:
		return &Con{x.Tag, turned(r, cells, x.Of)}
	case Tuple:
		var l Tuple
		for _, p := range x {
			l = append(l, turned(r, cells, p))
		}
		return l
	}
	return v
}

func TestEqualRandom(t *testing.T) {
	cells := []Value{newCell(1, Int(0)), newCell(2, Int(0))}
	for seed := range 3000 {
		r := rand.New(rand.NewSource(int64(seed)))
		v := randomValue(r, cells, 5)
		heldEqual(t, v, turned(r, cells, v))
	}
}

// P11.3: values that are nested deeply, on each side, and such as have the same part over and over: pair by pair.
func TestEqualDeep(t *testing.T) {
	const size = 300000
	nested := func(in func(v Value) Value) Value {
		v := Value(Int(0))
		for range size {
			v = in(v)
		}
		return v
	}
	for name, in := range map[string]func(v Value) Value{
		"constructors": func(v Value) Value { return &Con{1, v} },
		"lists":        func(v Value) Value { return &Con{1, Tuple{Int(7), v}} },
		"first fields": func(v Value) Value { return Tuple{v, Int(7)} },
		"only fields":  func(v Value) Value { return Tuple{v} },
	} {
		pairs := 2
		if name == "lists" {
			pairs = 3
		}
		if name == "constructors" || name == "only fields" {
			pairs = 1
		}
		s := NewState(nil, api.MaxFuel)
		got := s.Do(place(t, "=", -1), row(nested(in), nested(in)))
		if n := s.Outcome(api.Done).Steps; got != is(yes) || n != pairs*size {
			t.Errorf("%s: %v and %d steps", name, got, n)
		}
	}
	shared := Value(Int(0))
	for range 40 {
		shared = Tuple{shared, shared}
	}
	s := NewState(nil, 1000000)
	got := s.Do(place(t, "=", -1), row(shared, shared))
	if o := s.Outcome(api.OutOfFuel); got != end(api.OutOfFuel) || o.Steps != 1000000 {
		t.Error(fmt.Sprint(got, o.Steps))
	}
}
