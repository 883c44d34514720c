package lower

import "kiln/api"

// rules does what the first rule says that the value asked matches; if there is none, something else. A rule answers the environment in which its expression is, and a function that does that.
func (a *apart) rules(rules []int, other int) int {
	find := a.call(found, a.both(), a.listOf(api.NRule, rules, a.rule))
	do := a.apply(a.field(1, a.of(result)), a.field(0, a.of(result)))
	return a.let(result, find)(a.ifZero(a.of(result), other, do))
}

func (a *apart) rule(i int) int {
	kids := a.kids(i)
	does := a.tuple(a.of(result), a.fn(environment, a.exp(kids[1])))
	return a.ofBoth(a.let(result, a.pattern(kids[0]))(a.ifZero(a.of(result), a.zero, does)))
}

// pattern is the environment behind a pattern that the value asked matches; if it does not, the int 0.
func (a *apart) pattern(i int) int {
	i = a.body(i)
	switch a.Nodes[i].Kind {
	case api.NInt, api.NReal, api.NString, api.NChar: // the node may be an expression, too
		return a.constantMatched(i)
	}
	return a.once(i, a.newPattern)
}

func (a *apart) constantMatched(i int) int {
	key, ok := keyOf(a.constant(i))
	if !ok {
		return a.zero
	}
	return a.ifKey(a.of(asked), key, a.of(environment))
}

func (a *apart) newPattern(i int) int {
	kids := a.kids(i)
	switch a.Nodes[i].Kind {
	case api.PName:
		return a.nameMatched(a.Notes[i])
	case api.PApp:
		return a.madeMatched(a.Notes[kids[0]], a.pattern(kids[1]))
	case api.PRecord:
		return a.recordMatched(i)
	case api.PAs:
		return a.scoped(a.bound(i), a.pattern(kids[0]))
	}
	return a.of(environment)
}

// bound is the environment in which the variable that a node's note says is bound to the value asked.
func (a *apart) bound(i int) int { return a.with(a.Notes[i].At.Id, a.of(asked)) }

// ifKey does something where a key is there; where it is not, it is the int 0.
func (a *apart) ifKey(of int, key api.Key, do int) int {
	return a.choose(of, []api.Key{cloned(key)}, do, a.zero)
}

func (a *apart) nameMatched(n api.Note) int {
	switch n.Is {
	case api.SVar:
		return a.with(n.At.Id, a.of(asked))
	case api.SCon:
		return a.ifKey(a.of(asked), api.Key{Kind: api.KeyInt, Int: int64(n.Tag)}, a.of(environment))
	case api.SExn:
		return a.ifKey(a.isOf(n), isTrue(), a.of(environment))
	}
	return a.stuck()
}

// isOf tells whether the packet asked is one of an exception.
func (a *apart) isOf(n api.Note) int { return a.do("=", a.field(0, a.of(asked)), a.at(n.At)) }

// madeMatched matches what was made by a constructor or an exception.
func (a *apart) madeMatched(n api.Note, pattern int) int {
	arg := a.let(asked, a.carried(n, a.of(asked)))(pattern)
	switch {
	case n.Is == api.SExn:
		return a.ifKey(a.isOf(n), isTrue(), arg)
	case n.Is == api.SCon && n.Con == api.ConRef:
		return arg
	case n.Is == api.SCon:
		return a.ifKey(a.of(asked), api.Key{Kind: api.KeyCon, Int: int64(n.Tag)}, arg)
	}
	return a.stuck()
}

func (a *apart) recordMatched(i int) int {
	var list []element
	places := a.patternPlaces(i)
	for k, field := range a.patternFields(i) {
		if isNoField(places[k]) {
			return a.stuck()
		}
		a.asks[places[k]] = true
		n := a.item(use{field, api.PRecord}, func(field int) int { return a.ofBoth(a.pattern(a.held(field))) })
		list = append(list, element{n, places[k]})
	}
	if len(list) == 0 {
		return a.of(environment)
	}
	return a.call(matched, a.of(environment), a.of(asked), a.list(list))
}
