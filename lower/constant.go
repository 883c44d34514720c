package lower

import (
	"kiln/api"
	"kiln/fix"
	"kiln/flo"
	"kiln/values"
)

// constant is what a constant says; nil, if it says nothing.
func (u *unit) constant(i int) values.Value {
	v, ok := u.constants[i]
	if !ok {
		v = constantOf(u.Nodes[i])
		u.constants[i] = v
	}
	return v
}

func constantOf(n api.Node) values.Value {
	switch n.Kind {
	case api.NInt:
		if x, e := fix.Constant(n.Text); e == api.OK {
			return values.Int(x)
		}
	case api.NReal:
		if x, e := flo.Parse(n.Text); e == api.OK {
			return values.Real(x)
		}
	case api.NString:
		return values.Text(cut(n.Text))
	case api.NChar:
		return values.Int(firstByte(n.Text))
	}
	return nil
}

// firstByte is the byte of a character's text; of a text that has none, which only a hand can have made, 0.
func firstByte(s string) byte {
	if s == "" {
		return 0
	}
	return s[0]
}

// isSame tells whether a value is the one that a constant of a pattern says.
func isSame(constant, v values.Value) bool {
	switch c := constant.(type) {
	case values.Int:
		x, ok := v.(values.Int)
		return ok && x == c
	case values.Text:
		x, ok := v.(values.Text)
		return ok && x == c
	}
	return false
}
