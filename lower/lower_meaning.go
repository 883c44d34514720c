package lower

import "kiln/api"

// meaning is what a name stands for; at tells what is at an Access.
func (w *writer) meaning(n api.Note, at func(api.Access) int) int {
	switch {
	case n.Is == api.SVar:
		return at(n.At)
	case n.Is == api.SCon && !n.Arg:
		return w.int(int64(n.Tag))
	case n.Is == api.SExn && !n.Arg:
		return w.tuple(at(n.At), w.zero)
	case n.Is == api.SPrim:
		return w.primitive(n)
	case n.Is == api.SCon || n.Is == api.SExn:
		return w.fn(argument, w.make(n, at, func() int { return w.of(argument) }))
	}
	return w.stuck()
}

// make makes something with a constructor or an exception that takes an argument.
func (w *writer) make(n api.Note, at func(api.Access) int, arg func() int) int {
	switch {
	case n.Is == api.SExn:
		name := at(n.At)
		return w.tuple(name, arg())
	case n.Con == api.ConRef:
		return w.do("ref", arg())
	}
	return w.con(n.Tag, arg())
}

// primitive is a function that does a primitive.
func (w *writer) primitive(n api.Note) int {
	place, ok := w.prims[prim{n.Name, n.Con}]
	if !ok {
		return w.stuck()
	}
	args := []int{w.of(argument)}
	if takes := w.takes[place]; takes > 1 {
		args = nil
		for k := range takes {
			args = append(args, w.field(k, w.of(argument)))
		}
	}
	return w.fn(argument, w.doing(place, args))
}

// doing does a primitive. What exn makes is a packet, since of its type are packets alone.
func (w *writer) doing(place int, args []int) int {
	done := w.prim(place, args...)
	if place == w.prims[prim{"exn", -1}] {
		return w.tuple(done, w.zero)
	}
	return done
}

// carried is that with which the constructor or exception of a note made something.
func (w *writer) carried(n api.Note, of int) int {
	switch {
	case n.Is == api.SExn:
		return w.field(1, of)
	case n.Con == api.ConRef:
		return w.do("!", of)
	}
	return w.field(0, of)
}

// madeOf is a structure of parts, out of another one.
func (w *writer) madeOf(parts []api.Part, from int) int {
	return w.let(whole, from)(w.made(parts, func(at api.Access) int { return w.along(w.of(whole), at.Path) }))
}

// made is a structure of parts; at tells what is at an Access.
func (w *writer) made(parts []api.Part, at func(api.Access) int) int {
	var fields []int
	for i := range parts {
		fields = append(fields, w.slot(&parts[i], at))
	}
	return w.tuple(fields...)
}

// slot is a field of a structure that is made.
func (w *writer) slot(p *api.Part, at func(api.Access) int) int {
	switch {
	case p.Str && len(p.Sub) > 0:
		return w.made(p.Sub, at)
	case p.Str || p.Exn && p.From.Is == api.SExn:
		return at(p.From.At)
	}
	return w.meaning(noteOf(p.From), at)
}
