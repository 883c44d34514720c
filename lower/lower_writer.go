package lower

import (
	"strings"

	"kiln/api"
	"kiln/flo"
	"kiln/values"
)

// around makes what stands around a node: of the node that is handed to it, the one that has it within.
type around func(body int) int

// none is where there is no node.
const none = -1

// full is what too many nodes panic with.
type full struct{}

// Variables that no unit names, and those of the exceptions; all others have higher numbers.
const (
	ignored  = 0 // what nobody asks for
	whole    = 9 // a structure of which parts are taken
	argument = 10
	walker   = 11 // the function that goes along paths

	// Of nodes that stand at several places:
	environment = 12
	asked       = 13 // the value of which patterns are asked
	result      = 14
	cells       = 15

	// The functions that go along lists:
	named    = 16
	placed   = 17
	rest     = 18
	taken    = 19
	declared = 20
	found    = 21
	filled   = 22
	matched  = 23
	gathered = 24
	boundAll = 25
	renewed  = 26

	last = renewed
)

// writer writes a program of the small language.
type writer struct {
	nodes   []api.Term
	prims   map[prim]int
	takes   []int           // of each primitive: how many values it takes
	numbers map[int]int     // of the variables that units name
	given   int             // the last number that was given out
	vars    map[int]int     // of each variable its LVar
	hops    map[hop]int     // of each field its LField
	raises  map[int]int     // of each exception's number the node that raises it
	steps   [width + 1]bool // which fields stand on the way of long paths
	far     bool            // there are long paths
	zero    int             // the int 0
	most    int             // structures have fewer fields
}

func newWriter(units []*unit) *writer {
	w := &writer{prims: primPlaces(), numbers: map[int]int{}, given: last, vars: map[int]int{}, hops: map[hop]int{}, raises: map[int]int{}}
	for _, u := range units {
		w.most += len(u.Nodes)
	}
	for _, p := range api.Prims() {
		w.takes = append(w.takes, p.Args)
	}
	for code := api.XBind; code <= api.XSubscript; code++ {
		w.numbers[code] = code
	}
	w.zero = w.int(0)
	return w
}

// put writes a node, if there is room.
func (w *writer) put(t api.Term) int {
	if len(w.nodes) == api.MaxNodes {
		panic(full{})
	}
	w.nodes = append(w.nodes, t)
	return len(w.nodes) - 1
}

// fresh is a variable that nobody has.
func (w *writer) fresh() int {
	w.given++
	return w.given
}

// number is the variable for one that units name.
func (w *writer) number(id int) int {
	n, ok := w.numbers[id]
	if !ok {
		n = w.fresh()
		w.numbers[id] = n
	}
	return n
}

// of is what a variable of the program's own is bound to.
func (w *writer) of(v int) int {
	at, ok := w.vars[v]
	if !ok {
		at = w.put(api.Term{Kind: api.LVar, N: v})
		w.vars[v] = at
	}
	return at
}

// boundTo is what a variable that units name is bound to.
func (w *writer) boundTo(id int) int {
	if id == nobody {
		return w.zero
	}
	return w.of(w.number(id))
}

// stuck is where nothing can be done.
func (w *writer) stuck() int { return w.field(0, w.zero) }

func (w *writer) int(n int64) int { return w.put(api.Term{Kind: api.LInt, Int: n}) }

func (w *writer) text(s string) int {
	return w.put(api.Term{Kind: api.LStr, Text: strings.Clone(s)})
}

// say is the node of a constant's value.
func (w *writer) say(v values.Value) int {
	switch x := v.(type) {
	case values.Int:
		return w.int(int64(x))
	case values.Real:
		return w.put(api.Term{Kind: api.LReal, Bits: flo.Bits(float64(x))})
	case values.Text:
		return w.text(string(x))
	}
	return w.stuck()
}

func (w *writer) con(tag, of int) int {
	return w.put(api.Term{Kind: api.LCon, N: tag, Args: []int{of}})
}

func (w *writer) fn(v, body int) int {
	return w.put(api.Term{Kind: api.LFn, N: v, Args: []int{body}})
}

func (w *writer) apply(function, arg int) int {
	return w.put(api.Term{Kind: api.LApp, Args: []int{function, arg}})
}

// let binds a variable around what is handed on.
func (w *writer) let(v, to int) around {
	return func(body int) int { return w.put(api.Term{Kind: api.LLet, N: v, Args: []int{to, body}}) }
}

// choose is a case: a branch for each key, and perhaps one more.
func (w *writer) choose(of int, keys []api.Key, branches ...int) int {
	return w.put(api.Term{Kind: api.LCase, Keys: keys, Args: append([]int{of}, branches...)})
}

func (w *writer) raise(packet int) int {
	return w.put(api.Term{Kind: api.LRaise, Args: []int{packet}})
}

// raiseCode raises the exception of a number.
func (w *writer) raiseCode(code int) int {
	at, ok := w.raises[code]
	if !ok {
		at = w.raise(w.tuple(w.of(code), w.zero))
		w.raises[code] = at
	}
	return at
}

// exnName is a new cell of an exception's name.
func (w *writer) exnName(name string) int { return w.do("exn", w.text(cut(name))) }

// prim does a primitive.
func (w *writer) prim(place int, args ...int) int {
	return w.put(api.Term{Kind: api.LPrim, N: place, Args: args})
}

// do does a primitive that is not overloaded.
func (w *writer) do(name string, args ...int) int { return w.prim(w.prims[prim{name, -1}], args...) }

// ahead does something ahead of what is handed on.
func (w *writer) ahead(of int) around { return w.let(ignored, of) }

// inside is one that has all of these around what is handed on, the first one outermost.
func inside(l []around) around {
	return func(body int) int {
		for i := len(l) - 1; i >= 0; i-- {
			body = l[i](body)
		}
		return body
	}
}
