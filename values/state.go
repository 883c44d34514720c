package values

import (
	"math"
	"strings"

	"kiln/api"
)

// mostTold is how many bytes an answer may have so that something is promised of it.
const mostTold = math.MaxInt32

// State is what a run has read, printed and counted.
type State struct {
	prims []prim
	input []string
	fuel  int
	steps int
	out   []string
	told  int // how many bytes were printed
}

// NewState is that of a run that begins.
func NewState(input []string, fuel int) *State {
	return &State{prims: primitives(), input: input, fuel: fuel}
}

// Step counts a step; false, if as many as fuel were counted.
func (s *State) Step() bool {
	if s.steps == s.fuel {
		return false
	}
	s.steps++
	return true
}

// Do is what a primitive, a place in api.Prims, does with as many values as it takes.
func (s *State) Do(prim int, l []Value) Answer { return s.prims[prim].do(s, l) }

// Outcome is what a run did that ends now.
func (s *State) Outcome(status api.Status) api.Outcome {
	return api.Outcome{Out: s.out, Status: status, Steps: s.steps}
}

// Raised is what a run did that ends by what was raised.
func (s *State) Raised(packet Value) api.Outcome {
	name, ok := exnName(packet)
	if !ok {
		return s.Outcome(api.Stuck)
	}
	o := s.Outcome(api.Uncaught)
	o.Exn = strings.Clone(name)
	return o
}

// say prints a text. It is one's own who is told of it, as long as anything is promised of what is told.
func (s *State) say(text string) {
	s.told += len(text)
	if s.told <= mostTold {
		text = strings.Clone(text)
	}
	s.out = append(s.out, text)
}
