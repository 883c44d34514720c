package lower

import (
	"slices"

	"kiln/api"
)

// Tuples may have more fields than one of the small language. So behind the first ones the next field is a tuple of all others, and likewise there.

// width is how many fields a tuple has ahead of the one with the others: so few that the number of each is a byte.
const width = 255

// tuple is a tuple; of nothing the int 0.
func (w *writer) tuple(parts ...int) int {
	if len(parts) == 0 {
		return w.zero
	}
	var rest []int
	for len(parts) > width {
		from := (len(parts) - 1) / width * width
		rest = []int{w.put(api.Term{Kind: api.LTuple, Args: append(append([]int{}, parts[from:]...), rest...)})}
		parts = parts[:from]
	}
	return w.put(api.Term{Kind: api.LTuple, Args: append(append([]int{}, parts...), rest...)})
}

// hop is a field of a node.
type hop struct{ n, of int }

// field is a field of a tuple.
func (w *writer) field(n, of int) int {
	for ; n >= width; n -= width {
		of = w.hop(hop{width, of})
	}
	return w.hop(hop{n, of})
}

// recordField is a field of a record that a pattern asks.
func (w *writer) recordField(n, of int) int {
	if isNoField(n) {
		return w.stuck()
	}
	return w.field(n, of)
}

// isNoField tells whether no record has a field at this place.
func isNoField(place int) bool { return place < 0 || place >= api.MaxLabels }

// hop is a field of a node, each once.
func (w *writer) hop(h hop) int {
	at, ok := w.hops[h]
	if !ok {
		at = w.put(api.Term{Kind: api.LField, N: h.n, Args: []int{h.of}})
		w.hops[h] = at
	}
	return at
}

// longest is how many fields are taken one by one: of more a function takes them, so that long paths at many places are not too many nodes.
const longest = 16

// along is what stands in a structure where a path leads.
func (w *writer) along(of int, path []int) int {
	if slices.ContainsFunc(path, w.isNowhere) {
		return w.stuck()
	}
	if lengthOf(path) <= longest {
		for _, n := range path {
			of = w.field(n, of)
		}
		return of
	}
	var text []byte
	for _, n := range path {
		for ; n >= width; n -= width {
			text = append(text, width)
		}
		text = append(text, byte(n))
	}
	for from := 0; from < len(text); from += api.MaxString {
		of = w.walk(of, text[from:min(from+api.MaxString, len(text))])
	}
	return of
}

// isNowhere tells whether no structure has a field of this number: each of its names stands at a node.
func (w *writer) isNowhere(n int) bool { return n < 0 || n >= w.most }

// lengthOf is how many fields must be taken along a path.
func lengthOf(path []int) int {
	n := len(path)
	for _, place := range path {
		n += place / width
	}
	return n
}

// walk is what the function answers that goes along paths.
func (w *writer) walk(of int, fields []byte) int {
	w.far = true
	for _, b := range fields {
		w.steps[b] = true
	}
	return w.apply(w.of(walker), w.tuple(of, w.text(string(fields)), w.zero))
}

// walking has that function around what is handed on: of a structure, a text whose bytes are the fields to take, and a place there.
func (w *writer) walking(body int) int {
	if !w.far {
		return body
	}
	of, text, at := w.field(0, w.of(argument)), w.field(1, w.of(argument)), w.field(2, w.of(argument))
	var keys []api.Key
	var branches []int
	for b, is := range w.steps {
		if is {
			keys = append(keys, api.Key{Kind: api.KeyInt, Int: int64(b)})
			branches = append(branches, w.hop(hop{b, of}))
		}
	}
	step := w.choose(w.do("sub", text, at), keys, branches...)
	next := w.prim(w.prims[prim{"+", api.ConInt}], at, w.int(1))
	on := w.apply(w.of(walker), w.tuple(step, text, next))
	atEnd := w.do("=", at, w.do("size", text))
	function := w.fn(argument, w.choose(atEnd, []api.Key{{Kind: api.KeyInt, Int: 1}}, of, on))
	return w.put(api.Term{Kind: api.LFix, Vars: []int{walker}, Args: []int{function, body}})
}
