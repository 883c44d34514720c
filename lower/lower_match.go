package lower

import (
	"slices"
	"strings"

	"kiln/api"
	"kiln/values"
)

// tried are rules, up to the first that matches all.
func (l *lowerer) tried(rules []int) []int {
	for i, r := range rules {
		if l.tests[l.kids(r)[0]] == 0 {
			return rules[:i+1]
		}
	}
	return rules
}

// other is what is done where a pattern does not match.
type other struct {
	node  func() int
	small bool // it may stand at many places
}

// once makes a node where it is needed first.
func once(node func() int) func() int {
	at := none
	return func() int {
		if at == none {
			at = node()
		}
		return at
	}
}

// made is a node as what is done.
func made(at int) other { return other{node: func() int { return at }} }

// rules does what the first rule says that the value of a variable matches; if there is none, what stands behind all, which is small.
func (l *lowerer) rules(v int, rules []int, behind func() int) int {
	next := other{once(behind), true}
	var ahead branches // of the rules ahead of next, the last one first
	for _, r := range slices.Backward(l.tried(rules)) {
		kids := l.kids(r)
		if key, count, ok := l.onlyKey(kids[0]); ok {
			body := inside(l.within(kids[0], v, nil, nil))(l.exp(kids[1]))
			ahead = branches{append(ahead.keys, key), append(ahead.bodies, body), count}
			continue
		}
		next = made(l.rule(kids, v, l.branch(v, ahead, next)))
		ahead = branches{}
	}
	return l.branch(v, ahead, next).node()
}

// branches are rules of which each one asks but for a key, the last one first.
type branches struct {
	keys   []api.Key
	bodies []int
	count  int // how many keys there can be; 0 where nobody knows
}

// branch is a case of branches, and of what is next, if there is a key for which none asks.
func (l *lowerer) branch(v int, b branches, next other) other {
	if len(b.keys) == 0 {
		return next
	}
	unlike := map[api.Key]struct{}{}
	for _, k := range b.keys {
		unlike[k] = struct{}{}
	}
	slices.Reverse(b.keys)
	slices.Reverse(b.bodies)
	if len(unlike) != b.count {
		b.bodies = append(b.bodies, next.node())
	}
	return made(l.choose(l.of(v), b.keys, b.bodies...))
}

// rule does what a rule says, if the value of a variable matches it; else what is next.
func (l *lowerer) rule(kids []int, v int, next other) int {
	p := kids[0]
	if l.tests[p] < 2 || next.small {
		return inside(l.pattern(p, v, next.node, nil))(l.exp(kids[1]))
	}
	f := l.fresh()
	call := once(func() int { return l.apply(l.of(f), l.zero) })
	code := inside(l.pattern(p, v, call, nil))(l.exp(kids[1]))
	return l.let(f, l.fn(ignored, next.node()))(code)
}

// core is a pattern without the types that are said of it and the names that it has besides.
func (l *lowerer) core(p int) int {
	for l.Nodes[p].Kind == api.PTyped || l.Nodes[p].Kind == api.PAs {
		p = l.kids(p)[0]
	}
	return p
}

// nameOf is a variable for that which a pattern is asked of: one to which the pattern binds it, if there is one.
func (l *lowerer) nameOf(p int) int {
	p = l.body(p)
	if l.isName(p) {
		return l.number(l.Notes[p].At.Id)
	}
	return l.fresh()
}

// isName tells whether a pattern binds what it is asked of.
func (l *lowerer) isName(p int) bool {
	k := l.Nodes[p].Kind
	return k == api.PAs || k == api.PName && l.Notes[p].Is == api.SVar
}

// pattern matches the value of a variable with a pattern: behind the list what stands around that which is done then. Where it does not match, other is done.
func (l *lowerer) pattern(p, v int, other func() int, list []around) []around {
	core := l.core(p)
	if key, _, ok := l.key(core); ok {
		list = append(list, l.test(l.of(v), key, other))
	} else if n := l.asks(core); n.Is == api.SExn {
		same := l.do("=", l.field(0, l.of(v)), l.at(n.At))
		list = append(list, l.test(same, isTrue(), other))
	}
	return l.within(p, v, other, list)
}

// test goes on with what is handed on, if a key is there.
func (l *lowerer) test(of int, key api.Key, other func() int) around {
	return func(body int) int { return l.choose(of, []api.Key{cloned(key)}, body, other()) }
}

// onlyKey is the key for which a pattern asks, if it makes no other test; and how many there can be, or 0.
func (l *lowerer) onlyKey(p int) (key api.Key, count int, ok bool) {
	if l.tests[p] == 1 {
		key, count, ok = l.key(l.core(p))
	}
	return cloned(key), count, ok
}

// key is the key for which the core of a pattern asks itself; and how many there can be, or 0.
func (l *lowerer) key(core int) (api.Key, int, bool) {
	if key, ok := keyOf(l.constant(core)); ok {
		return key, 0, true
	}
	n := l.asks(core)
	switch {
	case n.Is != api.SCon || n.Count == 1:
		return api.Key{}, 0, false
	case l.Nodes[core].Kind == api.PName:
		return api.Key{Kind: api.KeyInt, Int: int64(n.Tag)}, n.Count, true
	}
	return api.Key{Kind: api.KeyCon, Int: int64(n.Tag)}, n.Count, true
}

// keyOf is the key that asks for a constant.
func keyOf(constant values.Value) (api.Key, bool) {
	switch c := constant.(type) {
	case values.Int:
		return api.Key{Kind: api.KeyInt, Int: int64(c)}, true
	case values.Text:
		return api.Key{Kind: api.KeyStr, Text: string(c)}, true
	}
	return api.Key{}, false
}

func isTrue() api.Key { return api.Key{Kind: api.KeyInt, Int: 1} }

// cloned is a key in new memory.
func cloned(k api.Key) api.Key {
	k.Text = strings.Clone(k.Text)
	return k
}

// asks is the note of the name by which the core of a pattern asks. Notes of patterns that have none may say anything, which plays no part.
func (l *lowerer) asks(core int) api.Note {
	switch l.Nodes[core].Kind {
	case api.PName:
		return l.Notes[core]
	case api.PApp:
		return l.Notes[l.kids(core)[0]]
	}
	return api.Note{}
}

// within is what a pattern does behind its own test: what it binds, and what its parts do.
func (l *lowerer) within(p, v int, other func() int, list []around) []around {
	for ; l.Nodes[p].Kind == api.PTyped || l.Nodes[p].Kind == api.PAs; p = l.kids(p)[0] {
		list = l.name(p, v, list)
	}
	list = l.name(p, v, list)
	switch l.Nodes[p].Kind {
	case api.PApp:
		kids := l.kids(p)
		return l.part(kids[1], func() int { return l.carried(l.Notes[kids[0]], l.of(v)) }, other, list)
	case api.PRecord:
		places := l.patternPlaces(p)
		for i, k := range l.patternFields(p) {
			list = l.part(l.held(k), func() int { return l.recordField(places[i], l.of(v)) }, other, list)
		}
	}
	return list
}

// name binds what a pattern is asked of, if it has a name for it and that is not the variable that has it already.
func (l *lowerer) name(p, v int, list []around) []around {
	if !l.isName(p) {
		return list
	}
	x := l.number(l.Notes[p].At.Id)
	if x == v {
		return list
	}
	return append(list, l.let(x, l.of(v)))
}

// part matches a part with its pattern.
func (l *lowerer) part(p int, of, other func() int, list []around) []around {
	if l.tests[p] == 0 && !l.binds[p] {
		return list
	}
	if key, ok := l.alone(p); ok {
		return append(list, l.test(of(), key, other))
	}
	v := l.nameOf(p)
	return l.pattern(p, v, other, append(list, l.let(v, of())))
}

// alone is the key for which a pattern asks, if it does nothing else.
func (l *lowerer) alone(p int) (api.Key, bool) {
	core := l.core(p)
	if l.binds[p] || l.Nodes[core].Kind == api.PApp {
		return api.Key{}, false
	}
	key, _, ok := l.key(core)
	return key, ok
}
