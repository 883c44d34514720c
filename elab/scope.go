package elab

// scope is where a phrase stands: what type variables stand for there, and the level.
type scope interface {
	tyvar(name string) (int, bool)
	depth() int
	key() int // no other scope has it
}

// ground is the scope around all others.
type ground struct{}

func (ground) tyvar(string) (int, bool) { return 0, false }
func (ground) depth() int               { return 0 }
func (ground) key() int                 { return 0 }

// valScope is the scope of a DVal or DRec, within the one that it embeds: there are types of a level more.
type valScope struct {
	typeScope
	level int
}

func (s valScope) depth() int { return s.level }

// typeScope is a scope with type variables of its own, within the one that it embeds.
type typeScope struct {
	scope
	means  map[string]int
	number int
}

func (s typeScope) key() int { return s.number }

// inner is a scope within the one that is, where type variables stand for types.
func (w *walker) inner(means map[string]int) typeScope {
	w.scopes++
	return typeScope{w.scope, means, w.scopes}
}

func (s typeScope) tyvar(name string) (int, bool) {
	if t, ok := s.means[name]; ok {
		return t, true
	}
	return s.scope.tyvar(name)
}

// meanings are names with the types that they stand for, as far as there are both.
func meanings(names []string, types []int) map[string]int {
	means := map[string]int{}
	for i := range min(len(names), len(types)) {
		means[names[i]] = types[i]
	}
	return means
}
