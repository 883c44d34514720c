package derive

import (
	"math/rand"
	"strconv"

	"kiln/api"
)

// grower makes trees that tree.Check takes, some of whose nodes stand at several places, and that keep or break restrictions.
type grower struct {
	*rand.Rand
	l     []api.Node
	pools map[string][]int // nodes by what they are, that may stand elsewhere, too
	fuel  int
	wild  int // once in so many times a restriction is not minded; 0: never
	share int // once in so many times a node stands elsewhere, too; 0: never
	fresh int
}

// put is a new node, at a place of its own.
func (g *grower) put(k api.NodeKind, text string, kids ...int) int {
	g.l = append(g.l, api.Node{Kind: k, Text: text, Kids: kids, Line: len(g.l) + 1, Column: 3 * len(g.l)})
	return len(g.l) - 1
}

func (g *grower) once(n int) bool { return n > 0 && g.Intn(n) == 0 }

// name is a new one; or, if restrictions are not minded, one of few.
func (g *grower) name() string {
	if g.once(g.wild) {
		return []string{"x", "y", "nil", "it", "ref", "::", "true", "false"}[g.Intn(8)]
	}
	g.fresh++
	return "n" + strconv.Itoa(g.fresh)
}

// path is a long name's, or none.
func (g *grower) path(i int) int {
	for g.once(8) {
		g.l[i].Path = append(g.l[i].Path, "A")
	}
	return i
}

// shared is a node of the pool, or a new one.
func (g *grower) shared(pool string, make func() int) int {
	if p := g.pools[pool]; len(p) > 0 && g.once(g.share) {
		return p[g.Intn(len(p))]
	}
	g.fuel--
	i := make()
	g.pools[pool] = append(g.pools[pool], i)
	return i
}

// some are as many as asked for at least, and a few more.
func (g *grower) some(least int, one func() int) []int {
	n := least
	for n < least+4 && g.fuel > 0 && g.once(2) {
		n++
	}
	var l []int
	for range n {
		l = append(l, one())
	}
	return l
}

func (g *grower) exp() int {
	return g.shared("exp", func() int {
		if g.fuel < 0 || g.once(4) {
			return g.leaf()
		}
		return g.bigExp()
	})
}

func (g *grower) leaf() int {
	switch g.Intn(8) {
	case 0:
		return g.shared("constant", func() int { return g.put(api.NInt, "1") })
	case 1:
		return g.put(api.NReal, "1.5")
	case 2:
		return g.shared("constant", func() int { return g.put([]api.NodeKind{api.NString, api.NChar}[g.Intn(2)], "c") })
	case 3:
		return g.put(api.ESelect, g.name())
	}
	return g.path(g.put(api.EName, g.name()))
}

func (g *grower) bigExp() int {
	switch g.Intn(18) {
	case 0:
		return g.put(api.ERecord, "", g.some(0, func() int { return g.field(g.exp) })...)
	case 1:
		return g.tuple(api.ETuple, g.exp)
	case 2:
		return g.put(api.EList, "", g.some(0, g.exp)...)
	case 3:
		return g.put(api.ESeq, "", g.some(2, g.exp)...)
	case 4:
		return g.put(api.ELet, "", append([]int{g.decs()}, g.some(1, g.exp)...)...)
	case 5:
		return g.put(api.ETyped, "", g.exp(), g.ty())
	case 6:
		return g.put(api.EAnd, "", g.exp(), g.exp())
	case 7:
		return g.put(api.EOr, "", g.exp(), g.exp())
	case 8:
		return g.put(api.EHandle, "", append([]int{g.exp()}, g.rules()...)...)
	case 9:
		return g.put(api.ERaise, "", g.exp())
	case 10, 11:
		return g.put(api.EIf, "", g.exp(), g.exp(), g.exp())
	case 12, 13:
		return g.put(api.EWhile, "", g.exp(), g.exp())
	case 14:
		return g.put(api.ECase, "", append([]int{g.exp()}, g.rules()...)...)
	case 15:
		return g.function()
	}
	return g.put(api.EApp, "", g.exp(), g.exp())
}

func (g *grower) function() int { return g.put(api.EFn, "", g.rules()...) }

func (g *grower) rules() []int {
	return g.some(1, func() int {
		return g.shared("rule", func() int { return g.put(api.NRule, "", g.pat(), g.exp()) })
	})
}

func (g *grower) field(held func() int) int {
	i := held()
	return g.put(api.NField, g.name(), i)
}

// tuple of none, or of two or more.
func (g *grower) tuple(k api.NodeKind, one func() int) int {
	if g.once(4) {
		return g.put(k, "")
	}
	return g.put(k, "", g.some(2, one)...)
}

func (g *grower) pat() int {
	return g.shared("pat", func() int {
		if g.fuel < 0 || g.once(3) {
			return g.leafPat()
		}
		switch g.Intn(7) {
		case 0:
			return g.put(api.PApp, "", g.path(g.put(api.PName, g.name())), g.pat())
		case 1:
			return g.tuple(api.PTuple, g.pat)
		case 2:
			l := g.some(0, func() int { return g.field(g.pat) })
			if g.once(3) {
				l = append(l, g.put(api.PDots, ""))
			}
			return g.put(api.PRecord, "", l...)
		case 3:
			return g.put(api.PList, "", g.some(0, g.pat)...)
		case 4:
			return g.put(api.PTyped, "", g.pat(), g.ty())
		case 5:
			return g.put(api.PAs, g.name(), g.pat())
		}
		return g.leafPat()
	})
}

func (g *grower) leafPat() int {
	switch g.Intn(5) {
	case 0:
		return g.put(api.PWild, "")
	case 1:
		return g.shared("constant", func() int { return g.put(api.NInt, "1") })
	}
	return g.path(g.put(api.PName, g.name()))
}

// tyvar is 'a, which each head of types has; or another one.
func (g *grower) tyvar() int {
	if g.once(g.wild) {
		return g.put(api.TVar, []string{"'b", "''a", "'c"}[g.Intn(3)])
	}
	return g.put(api.TVar, "'a")
}

func (g *grower) ty() int {
	return g.shared("ty", func() int {
		if g.fuel < 0 || g.once(3) {
			if g.once(2) {
				return g.tyvar()
			}
			return g.path(g.put(api.TCon, g.name()))
		}
		switch g.Intn(4) {
		case 0:
			return g.path(g.put(api.TCon, "t", g.some(1, g.ty)...))
		case 1:
			return g.put(api.TTuple, "", g.some(2, g.ty)...)
		case 2:
			return g.put(api.TRec, "", g.some(0, func() int { return g.field(g.ty) })...)
		}
		return g.put(api.TArrow, "", g.ty(), g.ty())
	})
}

// head is the type variables that stand ahead.
func (g *grower) head() []int {
	if g.once(g.wild) {
		return g.some(0, g.tyvar)
	}
	l := []int{g.put(api.TVar, "'a")}
	if g.once(3) {
		l = append(l, g.put(api.TVar, "'d"))
	}
	return l
}

func (g *grower) decs() int {
	return g.shared("decs", func() int { return g.put(api.NDecs, "", g.some(0, g.dec)...) })
}

func (g *grower) dec() int {
	return g.shared("dec", func() int {
		switch g.Intn(15) {
		case 0:
			return g.put(api.DVal, "", g.some(1, g.bind)...)
		case 1, 2:
			return g.put(api.DRec, "", g.some(1, g.bindFunction)...)
		case 3, 4, 5:
			return g.put(api.DFun, "", g.some(1, g.fun)...)
		case 6:
			return g.put(api.DType, "", g.some(1, g.tybind)...)
		case 7:
			return g.put(api.DData, "", g.some(1, g.datbind)...)
		case 8:
			c := g.path(g.put(api.TCon, g.name()))
			return g.put(api.DCopy, g.name(), c)
		case 9:
			return g.put(api.DExn, "", g.some(1, g.exbind)...)
		case 10:
			return g.put(api.DLocal, "", g.decs(), g.decs())
		case 11:
			return g.put(api.DOpen, "", g.some(1, func() int { return g.path(g.put(api.SName, "S")) })...)
		case 12:
			return g.put(api.DFix, "infix 6", g.some(1, func() int {
				return g.shared("name", func() int { return g.put(api.PName, g.name()) })
			})...)
		}
		return g.module()
	})
}

func (g *grower) module() int {
	switch g.Intn(3) {
	case 0:
		return g.put(api.DStr, "", g.some(1, func() int {
			s := g.str()
			return g.put(api.NStr, g.name(), s)
		})...)
	case 1:
		return g.put(api.DSig, "", g.some(1, g.namedSig)...)
	}
	return g.put(api.DFct, "", g.some(1, func() int {
		p, s := g.namedSig(), g.str()
		return g.put(api.NFct, g.name(), p, s)
	})...)
}

func (g *grower) bind() int { return g.put(api.NBind, "", g.pat(), g.exp()) }

func (g *grower) bindFunction() int {
	if g.once(g.wild) {
		return g.bind()
	}
	return g.shared("bind", func() int {
		p, e := g.shared("name", func() int { return g.put(api.PName, g.name()) }), g.function()
		for g.once(3) {
			p = g.put(api.PTyped, "", p, g.ty())
		}
		for g.once(3) {
			e = g.put(api.ETyped, "", e, g.ty())
		}
		return g.put(api.NBind, "", p, e)
	})
}

func (g *grower) fun() int {
	return g.shared("fun", func() int {
		name, count := g.name(), 1+g.Intn(3)
		return g.put(api.NFun, "", g.some(1, func() int {
			return g.shared("clause "+name, func() int { return g.clause(name, count) })
		})...)
	})
}

func (g *grower) clause(name string, count int) int {
	if g.once(g.wild) {
		name = g.name()
	}
	if g.once(g.wild) {
		count = 1 + g.Intn(3)
	}
	p := g.shared("pats "+strconv.Itoa(count), func() int {
		var l []int
		for range count {
			l = append(l, g.pat())
		}
		return g.put(api.NPats, "", l...)
	})
	kids := []int{p, g.exp()}
	if g.once(3) {
		kids = append(kids, g.ty())
	}
	return g.put(api.NClause, name, kids...)
}

func (g *grower) tybind() int {
	l := append(g.head(), g.ty())
	return g.put(api.NTybind, g.name(), l...)
}

func (g *grower) datbind() int {
	return g.shared("datbind", func() int {
		l := append(g.head(), g.some(1, g.con)...)
		return g.put(api.NDatbind, g.name(), l...)
	})
}

// con is a constructor, perhaps with a type.
func (g *grower) con() int {
	return g.shared("con", func() int {
		if g.once(2) {
			return g.put(api.NCon, g.name())
		}
		t := g.ty()
		return g.put(api.NCon, g.name(), t)
	})
}

func (g *grower) exbind() int {
	if g.once(3) {
		e := g.path(g.put(api.EName, g.name()))
		return g.put(api.NSame, g.name(), e)
	}
	return g.con()
}

func (g *grower) str() int {
	if g.fuel < 0 || g.once(3) {
		return g.path(g.put(api.SName, "S"))
	}
	return g.shared("str", func() int {
		switch g.Intn(5) {
		case 0:
			return g.put(api.SStruct, "", g.decs())
		case 1:
			return g.put(api.SApp, "F", g.str())
		case 2:
			return g.put(api.STrans, "", g.str(), g.sig())
		case 3:
			return g.put(api.SOpaque, "", g.str(), g.sig())
		}
		return g.put(api.SLet, "", g.decs(), g.str())
	})
}

func (g *grower) namedSig() int {
	s := g.sig()
	return g.put(api.NSig, g.name(), s)
}

func (g *grower) sig() int {
	if g.fuel < 0 || g.once(5) {
		return g.put(api.GName, "G")
	}
	return g.shared("sig", func() int {
		if g.once(5) {
			s, l := g.sig(), append(g.head(), g.ty())
			return g.put(api.GWhere, "", s, g.path(g.put(api.NWhere, "t", l...)))
		}
		return g.put(api.GSig, "", g.some(0, g.spec)...)
	})
}

// typeSpec is a type's name with its variables.
func (g *grower) typeSpec() int {
	return g.shared("typespec", func() int {
		l := g.head()
		return g.put(api.NCon, g.name(), l...)
	})
}

func (g *grower) spec() int {
	switch g.Intn(8) {
	case 0, 7:
		return g.put(api.XVal, "", g.some(1, func() int {
			t := g.ty()
			return g.put(api.NCon, g.name(), t)
		})...)
	case 1:
		return g.put(api.XType, "", g.some(1, g.typeSpec)...)
	case 2:
		return g.put(api.XEq, "", g.some(1, g.typeSpec)...)
	case 3:
		return g.put(api.XAlias, "", g.some(1, g.tybind)...)
	case 4:
		return g.put(api.XData, "", g.some(1, g.datbind)...)
	case 5:
		return g.put(api.XExn, "", g.some(1, g.con)...)
	}
	return g.put(api.XStr, "", g.some(1, g.namedSig)...)
}

// grown is a random tree: each third one minds all restrictions.
func grown(seed int64) ([]api.Node, int) {
	g := &grower{Rand: rand.New(rand.NewSource(seed)), pools: map[string][]int{}, fuel: 10 + int(seed%90)}
	g.wild = []int{0, 12, 30}[seed%3]
	g.share = []int{0, 5, 20}[seed/3%3]
	var l []int
	for g.fuel > 0 || len(l) == 0 {
		l = append(l, g.dec())
	}
	root := g.put(api.NDecs, "", l...)
	return g.l, root
}
