package match

import "kiln/api"

// Run goes down a decision tree.
func Run(l []api.Choice, root int, v api.Datum) (int, []api.Bind, bool) {
	for below := len(l); root >= 0 && root < below; {
		c := &l[root]
		switch c.Kind {
		case api.CLeaf:
			return reap(c, &v)
		case api.CTest:
			at := follow(&v, c.Path)
			if at == nil {
				return 0, nil, false
			}
			below, root = root, after(c, at)
		default:
			return 0, nil, false
		}
	}
	return 0, nil, false
}

// after is the node to which a test goes.
func after(c *api.Choice, at *api.Datum) int {
	for i, key := range c.Keys {
		if i < len(c.Next) && isThere(key, at) {
			return c.Next[i]
		}
	}
	return c.Else
}

// isThere tells whether a value is as a key has it.
func isThere(key api.Datum, v *api.Datum) bool {
	if key.Kind != v.Kind {
		return false
	}
	switch key.Kind {
	case api.WInt:
		return key.Int == v.Int
	case api.WStr:
		return key.Text == v.Text
	case api.WCon, api.WExn:
		return key.N == v.N
	}
	return true
}

// reap is what a leaf says of a value.
func reap(c *api.Choice, v *api.Datum) (int, []api.Bind, bool) {
	if len(c.Vars) != len(c.Paths) {
		return 0, nil, false
	}
	at := make([]*api.Datum, len(c.Vars))
	for i, path := range c.Paths {
		if at[i] = follow(v, path); at[i] == nil || isLarge(at[i]) {
			return 0, nil, false
		}
	}
	l := make([]api.Bind, len(c.Vars))
	for i, n := range c.Vars {
		l[i] = api.Bind{Var: n, Val: cloned(*at[i])}
	}
	return c.Row, l, true
}
