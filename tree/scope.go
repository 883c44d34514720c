package tree

import (
	"strings"
)

// fixity is how a name stands between two phrases, if it is an infix name.
type fixity struct {
	infix bool
	level int
	right bool // infixr: of one level the last name's phrases are put together first
}

// scope is what directives have turned in it. It embeds the one around it, which holds for all other names.
type scope struct {
	*scope
	turned map[string]fixity
}

// inner is a new scope within s.
func (s *scope) inner() *scope { return &scope{scope: s, turned: map[string]fixity{}} }

// find is the fixity of a name.
func (s *scope) find(name string) fixity {
	for ; s != nil; s = s.scope {
		if f, ok := s.turned[name]; ok {
			return f
		}
	}
	return fixity{}
}

// firstScope is the scope around programs.
func firstScope() *scope {
	var around *scope
	s := around.inner()
	for level, names := range [8]string{0: "before", 3: ":= o", 4: "= <> > >= < <=", 5: ":: @", 6: "+ - ^", 7: "* / div mod"} {
		for _, n := range strings.Fields(names) {
			s.turned[n] = fixity{infix: true, level: level, right: level == 5}
		}
	}
	return s
}
