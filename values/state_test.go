package values

import (
	"slices"
	"strings"
	"testing"

	"kiln/api"
)

// P11.3: as many steps as fuel.
func TestSteps(t *testing.T) {
	for _, fuel := range []int{0, 1, 2, 10} {
		s := NewState(nil, fuel)
		n := 0
		for s.Step() {
			n++
		}
		if again := s.Step(); n != fuel || again || s.Outcome(api.OutOfFuel).Steps != fuel {
			t.Errorf("%d steps with %d", n, fuel)
		}
	}
}

// P11.3: what is printed, in order, empty texts, too.
func TestPrint(t *testing.T) {
	s := NewState(nil, 0)
	print := place(t, "print", -1)
	if o := s.Outcome(api.Done); len(o.Out) != 0 {
		t.Errorf("%q", o.Out)
	}
	want := []string{"b", "", "a\n", "b"}
	for _, x := range want {
		if got := s.Do(print, row(Text(x))); got != is(Int(0)) {
			t.Errorf("print: %v", got)
		}
	}
	if o := s.Outcome(api.Stuck); !slices.Equal(o.Out, want) || o.Status != api.Stuck || o.Exn != "" || o.Steps != 0 {
		t.Errorf("%v", o)
	}
}

// P11.3: line by line, with a byte 10 behind each but what is too long for it; then nothing.
func TestInput(t *testing.T) {
	line := func(n int) string { return strings.Repeat("x", n) }
	most := api.MaxString
	lines := []string{"a", "", "b\nc", line(most - 2), line(most - 1), line(most), line(most + 1), line(3 * most), "d"}
	want := []string{"a\n", "\n", "b\nc\n", line(most-2) + "\n", line(most-1) + "\n", line(most), line(most), line(most), "d\n", "", "", ""}
	s := NewState(lines, 0)
	read := place(t, "input", -1)
	for i, x := range want {
		if got := s.Do(read, row(Int(0))); got != is(Text(x)) {
			t.Errorf("the line %d: %v", i, got)
		}
	}
	if lines[0] != "a" || len(lines) != 9 {
		t.Error("the lines were changed")
	}
}

// P11.3: what is uncaught has the name of an exception, or the run is Stuck.
func TestRaised(t *testing.T) {
	name := cellOf(Text("E"))
	for _, packet := range []Value{Packet(name), Tuple{name}, Tuple{name, Int(1), Text("x")}, Tuple{cellOf(Text("E"), Int(1)), Real(1)}} {
		if o := NewState(nil, 0).Raised(packet); o.Status != api.Uncaught || o.Exn != "E" || len(o.Out) != 0 {
			t.Errorf("%v: %v", packet, o)
		}
	}
	for _, packet := range []Value{Int(0), Text("E"), name, &Con{0, name}, Tuple{Text("E"), Int(0)}, Tuple{Int(0), name}, Tuple{cellOf(), Int(0)}, Tuple{cellOf(Int(1)), Int(0)}, Tuple{cellOf(Int(1), Text("E"))}, Tuple{Tuple{name}}} {
		if o := NewState(nil, 0).Raised(packet); o.Status != api.Stuck || o.Exn != "" || len(o.Out) != 0 {
			t.Errorf("%v: %v", packet, o)
		}
	}
}

// P11.3: fields of tuples, and what is in a constructor's value.
func TestField(t *testing.T) {
	for _, c := range []struct {
		v    Value
		n    int
		want Value
	}{
		{Tuple{Int(5), Text("a")}, 0, Int(5)}, {Tuple{Int(5), Text("a")}, 1, Text("a")}, {Tuple{Int(5), Text("a")}, 2, nil}, {Tuple{Int(5)}, 1 << 40, nil},
		{&Con{3, Text("b")}, 0, Text("b")}, {&Con{3, Text("b")}, 1, nil}, {&Con{3, Text("b")}, 3, nil},
		{Int(5), 0, nil}, {Text("abc"), 0, nil}, {Real(1), 0, nil}, {cellOf(Int(1)), 0, nil}, {&struct{ n int }{1}, 0, nil},
	} {
		if v, ok := Field(c.v, c.n); v != c.want || ok != (c.want != nil) {
			t.Errorf("Field(%v, %d) = %v, %v", c.v, c.n, v, ok)
		}
	}
}
