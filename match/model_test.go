package match

import (
	"slices"

	"kiln/api"
)

// reading is a second reading of the chapter: its words, one by one, at whatever cost.
type reading struct{ api.Match }

func (r reading) shaped() bool {
	n := len(r.Shapes)
	if r.Shape < 0 || r.Shape >= n {
		return false
	}
	for _, h := range r.Shapes {
		for _, a := range h.Args {
			if a >= n || a < -1 || a == -1 && h.Kind != api.HData && h.Kind != api.HExn {
				return false
			}
		}
		switch h.Kind {
		case api.HInt, api.HStr:
			if len(h.Args) > 0 {
				return false
			}
		case api.HData:
			if len(h.Args) == 0 {
				return false
			}
		case api.HRec, api.HExn:
		default:
			return false
		}
	}
	ok := r.grounded()
	for _, s := range r.from(r.Shape, nil) {
		if !ok[s] {
			return false
		}
	}
	return true
}

// grounded is the least set, in as many rounds as it takes.
func (r reading) grounded() []bool {
	ok := make([]bool, len(r.Shapes))
	for range r.Shapes {
		for s, h := range r.Shapes {
			is := func(a int) bool { return a == -1 || ok[a] }
			switch h.Kind {
			case api.HRec:
				ok[s] = !slices.ContainsFunc(h.Args, func(a int) bool { return !is(a) })
			case api.HData:
				ok[s] = slices.ContainsFunc(h.Args, is)
			default:
				ok[s] = true
			}
		}
	}
	return ok
}

// from are the shapes that are reached from one, those that were met among them.
func (r reading) from(s int, met []int) []int {
	if s == -1 || slices.Contains(met, s) {
		return met
	}
	met = append(met, s)
	for _, a := range r.Shapes[s].Args {
		met = r.from(a, met)
	}
	return met
}

// lower tells whether p is lower than a number, and so is each Arg of what it is made of than what has it.
func (r reading) lower(p, below int) bool {
	return p >= 0 && p < below && !slices.ContainsFunc(r.Pats[p].Args, func(a int) bool { return !r.lower(a, p) })
}

// isFor tells whether p is a pattern for a shape, if its Args are lower.
func (r reading) isFor(p, shape int) bool {
	x, h := r.Pats[p], r.Shapes[shape]
	one := func(args []int) bool {
		if x.N < 0 || x.N >= len(args) {
			return false
		}
		if args[x.N] == -1 {
			return len(x.Args) == 0
		}
		return len(x.Args) == 1 && r.isFor(x.Args[0], args[x.N])
	}
	switch x.Kind {
	case api.QAny:
		return true
	case api.QBind:
		return len(x.Args) == 0 || len(x.Args) == 1 && r.isFor(x.Args[0], shape)
	case api.QInt:
		return h.Kind == api.HInt && len(x.Args) == 0
	case api.QStr:
		return h.Kind == api.HStr && len(x.Args) == 0
	case api.QRec:
		if h.Kind != api.HRec || len(x.Args) != len(h.Args) {
			return false
		}
		for i, a := range x.Args {
			if !r.isFor(a, h.Args[i]) {
				return false
			}
		}
		return true
	case api.QCon:
		return h.Kind == api.HData && one(h.Args)
	case api.QExn:
		return h.Kind == api.HExn && one(h.Args)
	}
	return false
}

func (r reading) check() api.Errno {
	if !r.shaped() {
		return api.ErrShapes
	}
	for _, p := range r.Rows {
		if !r.lower(p, len(r.Pats)) || !r.isFor(p, r.Shape) {
			return api.ErrPattern
		}
	}
	if len(r.Pats) > api.MaxNodes || len(r.Shapes) > api.MaxNodes {
		return api.ErrMany
	}
	return api.OK
}

// is tells whether a value is one of a shape.
func (r reading) is(v api.Datum, shape int) bool {
	h := r.Shapes[shape]
	one := func() bool {
		if h.Args[v.N] == -1 {
			return len(v.Args) == 0
		}
		return len(v.Args) == 1 && r.is(v.Args[0], h.Args[v.N])
	}
	switch {
	case h.Kind == api.HInt:
		return v.Kind == api.WInt
	case h.Kind == api.HStr:
		return v.Kind == api.WStr
	case h.Kind == api.HRec && v.Kind == api.WRec && len(v.Args) == len(h.Args):
		for i, a := range v.Args {
			if !r.is(a, h.Args[i]) {
				return false
			}
		}
		return true
	case h.Kind == api.HData && v.Kind == api.WCon:
		return v.N >= 0 && v.N < len(h.Args) && one()
	case h.Kind == api.HExn && v.Kind == api.WExn:
		return v.N >= len(h.Args) && len(v.Args) == 0 || v.N >= 0 && v.N < len(h.Args) && one()
	}
	return false
}

func (r reading) fits(v api.Datum) bool { return r.check() == api.OK && r.is(v, r.Shape) }

// match tells whether a value matches a pattern, and what its variables stand for.
func (r reading) match(p int, v api.Datum) ([]api.Bind, bool) {
	x := r.Pats[p]
	var l []api.Bind
	switch x.Kind {
	case api.QAny:
		return nil, true
	case api.QBind:
		l = []api.Bind{{Var: x.N, Val: v}}
		if len(x.Args) == 0 {
			return l, true
		}
		more, ok := r.match(x.Args[0], v)
		return append(l, more...), ok
	case api.QInt:
		return nil, x.Int == v.Int
	case api.QStr:
		return nil, x.Text == v.Text
	case api.QCon, api.QExn:
		if x.N != v.N {
			return nil, false
		}
	}
	for i, a := range x.Args {
		more, ok := r.match(a, v.Args[i])
		if !ok {
			return nil, false
		}
		l = append(l, more...)
	}
	return l, true
}

func (r reading) first(v api.Datum) (int, []api.Bind, bool) {
	for i, p := range r.Rows {
		if l, ok := r.match(p, v); ok {
			return i, l, true
		}
	}
	return 0, nil, false
}

// bare is a pattern without variables around it; -1, if all values match it.
func (r reading) bare(p int) int {
	for r.Pats[p].Kind == api.QBind {
		if len(r.Pats[p].Args) == 0 {
			return -1
		}
		p = r.Pats[p].Args[0]
	}
	if r.Pats[p].Kind == api.QAny {
		return -1
	}
	return p
}

// tooWide is what samples panics with, if there would be too many.
type tooWide struct{}

// samples are values of a shape such that each value of it matches the same of these patterns as one of them: where no pattern looks there is a single one.
func (r reading) samples(shape int, pats []int) []api.Datum {
	var look []int
	for _, p := range pats {
		if p = r.bare(p); p != -1 {
			look = append(look, p)
		}
	}
	if len(look) == 0 {
		return []api.Datum{r.some(shape, len(r.Shapes)+1)}
	}
	h := r.Shapes[shape]
	var l []api.Datum
	switch h.Kind {
	case api.HInt:
		l = append(l, wInt(-77))
		for _, p := range look {
			l = append(l, wInt(r.Pats[p].Int))
		}
	case api.HStr:
		l = append(l, wStr("no such text"))
		for _, p := range look {
			l = append(l, wStr(r.Pats[p].Text))
		}
	case api.HRec:
		return r.products(h.Args, look)
	case api.HExn:
		l = append(l, wExn(len(h.Args)+3))
	}
	for n, a := range h.Args {
		v := api.Datum{Kind: api.WCon, N: n}
		if h.Kind == api.HExn {
			v.Kind = api.WExn
		}
		if a == -1 {
			l = append(l, v)
			continue
		}
		var in []int
		for _, p := range look {
			if r.Pats[p].N == n {
				in = append(in, r.Pats[p].Args[0])
			}
		}
		for _, x := range r.samples(a, in) {
			v.Args = []api.Datum{x}
			l = append(l, v)
		}
	}
	return l
}

// products are records of samples of all fields.
func (r reading) products(shapes, look []int) []api.Datum {
	l := []api.Datum{{Kind: api.WRec}}
	for i, s := range shapes {
		var in []int
		for _, p := range look {
			in = append(in, r.Pats[p].Args[i])
		}
		var more []api.Datum
		for _, x := range r.samples(s, in) {
			for _, v := range l {
				more = append(more, wRec(append(slices.Clip(v.Args), x)...))
			}
		}
		if l = more; len(l) > 3000 {
			panic(tooWide{})
		}
	}
	return l
}

// some is a value of a shape that has one with no more than so many parts in one another.
func (r reading) some(shape, depth int) api.Datum {
	v, _ := r.try(shape, depth)
	return v
}

func (r reading) try(shape, depth int) (api.Datum, bool) {
	h := r.Shapes[shape]
	switch {
	case depth == 0:
		return api.Datum{}, false
	case h.Kind == api.HInt:
		return wInt(7), true
	case h.Kind == api.HStr:
		return wStr("t"), true
	case h.Kind == api.HExn:
		return wExn(len(h.Args) + 1), true
	case h.Kind == api.HRec:
		v := wRec()
		for _, a := range h.Args {
			x, ok := r.try(a, depth-1)
			if !ok {
				return v, false
			}
			v.Args = append(v.Args, x)
		}
		return v, true
	}
	for most := range depth {
		for n, a := range h.Args {
			if a == -1 {
				return wCon(n), true
			}
			if x, ok := r.try(a, most); ok {
				return wCon(n, x), true
			}
		}
	}
	return api.Datum{}, false
}

// redundant and missing, by all samples; false, if these are too many.
func (r reading) coverage() (redundant []int, missing, ok bool, all []api.Datum) {
	defer func() {
		if x := recover(); x != nil {
			_ = x.(tooWide)
			redundant, missing, ok, all = nil, false, false, nil
		}
	}()
	all = r.samples(r.Shape, r.Rows)
	met := make([]bool, len(r.Rows))
	for _, v := range all {
		if i, _, ok := r.first(v); ok {
			met[i] = true
		} else {
			missing = true
		}
	}
	for i, is := range met {
		if !is {
			redundant = append(redundant, i)
		}
	}
	return redundant, missing, true, all
}
