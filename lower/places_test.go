package lower

import (
	"slices"
	"strconv"
	"testing"

	"kiln/api"
	"kiln/lambda"
)

// Nodes that stand at several places, as a hand can make them.

// app is a function's name with an argument.
func (h *hand) app(name string, arg int) int {
	return h.put(api.EApp, "", h.put(api.EName, name), arg)
}

// prints prints a text.
func (h *hand) prints(text string) int {
	name := h.put(api.EName, "print")
	h.l[name].Path = []string{"Prim"}
	return h.put(api.EApp, "", name, h.put(api.NString, text))
}

// pair is a record, or a pattern of one, with the labels 1 and 2.
func (h *hand) pair(k api.NodeKind, a, b int) int {
	return h.put(k, "", h.put(api.NField, "1", a), h.put(api.NField, "2", b))
}

func (h *hand) val(pat, exp int) int {
	return h.put(api.DVal, "", h.put(api.NBind, "", pat, exp))
}

// fn is a function of one rule.
func (h *hand) fn(pat, exp int) int {
	return h.put(api.EFn, "", h.put(api.NRule, "", pat, exp))
}

// seq is one expression ahead of another one.
func (h *hand) seq(a, b int) int {
	return h.put(api.EApp, "", h.fn(h.put(api.PWild, ""), b), a)
}

func (h *hand) decs(l ...int) int { return h.put(api.NDecs, "", l...) }

// ends fails the test, if a unit made by hand ends otherwise, by itself or as a program; of one that is out of fuel it plays no part what it has printed.
func (h *hand) ends(t *testing.T, name string, root int, status api.Status, printed int) {
	t.Helper()
	l := []api.Unit{h.unit(t, root)}
	o, e := Run(l, nil, api.MaxRun)
	if e != api.OK || o.Status != status || status != api.OutOfFuel && len(o.Out) != printed {
		t.Errorf("%s: %d, %d, %d printed; want %d, %d", name, e, o.Status, len(o.Out), status, printed)
	}
	p := lowers(t, l)
	if b, _ := lambda.Run(p, nil, 1<<25); status != api.OutOfFuel && !alike(o, b) || !begins(o, b) {
		t.Errorf("%s lowered: %d, %d printed", name, b.Status, len(b.Out))
	}
	held(t, l, p, nil, min(api.MaxRun, 2000+o.Steps/2))
	held(t, l, p, nil, min(o.Steps, 20000))
	if len(p.Nodes) > 24*size(l)+200 {
		t.Errorf("%s: %d nodes of %d", name, len(p.Nodes), size(l))
	}
}

// P12.2: expressions within expressions twice.
func TestExpressionsTwice(t *testing.T) {
	for _, n := range []int{0, 1, 5, 10, 12} {
		h := &hand{}
		e := h.prints("x")
		for range n {
			e = h.seq(e, e)
		}
		h.ends(t, strconv.Itoa(n), h.decs(h.val(h.put(api.PWild, ""), e)), api.Done, 1<<n)
	}
}

// P12.2: functions applied to themselves.
func TestApplicationsTwice(t *testing.T) {
	for _, n := range []int{0, 1, 3, 8} {
		h := &hand{}
		decs := []int{h.val(h.put(api.PName, "f"), h.fn(h.put(api.PName, "x"), h.put(api.EName, "x")))}
		e := h.seq(h.prints("x"), h.put(api.EName, "f"))
		for range n {
			e = h.put(api.EApp, "", e, e)
		}
		h.ends(t, strconv.Itoa(n), h.decs(append(decs, h.val(h.put(api.PWild, ""), e))...), api.Done, 1<<n)
	}
}

// trees makes the datatype of trees: Leaf, or Node of two of them.
func (h *hand) trees() int {
	tree := h.put(api.TCon, "tree")
	pair := h.pair(api.TRec, tree, tree)
	return h.put(api.DData, "", h.put(api.NDatbind, "tree", h.put(api.NCon, "Leaf"), h.put(api.NCon, "Node", pair), h.put(api.NCon, "Other")))
}

// P12.2: patterns within patterns twice.
func TestPatternsTwice(t *testing.T) {
	for _, base := range []string{"", "Leaf", "Other"} {
		for _, n := range []int{0, 1, 2, 8, 13} {
			h := &hand{}
			decs := []int{h.trees()}
			v := h.put(api.EName, "Leaf")
			p := h.put(api.PName, base)
			if base == "" {
				p = h.put(api.PWild, "")
			}
			for i := range n {
				name := "v" + strconv.Itoa(i)
				decs = append(decs, h.val(h.put(api.PName, name), v))
				v = h.app("Node", h.pair(api.ERecord, h.put(api.EName, name), h.put(api.EName, name)))
				p = h.put(api.PApp, "", h.put(api.PName, "Node"), h.pair(api.PRecord, p, p))
			}
			decs = append(decs, h.val(p, v), h.val(h.put(api.PWild, ""), h.prints("x")))
			root := h.decs(decs...)
			if base == "Other" {
				h.ends(t, base+strconv.Itoa(n), root, api.Uncaught, 0)
			} else {
				h.ends(t, base+strconv.Itoa(n), root, api.Done, 1)
			}
		}
	}
	h := &hand{} // in records nothing is tested, but steps are counted
	p, e := h.put(api.PWild, ""), h.put(api.ERecord, "")
	for range 10 {
		p, e = h.pair(api.PRecord, p, p), h.pair(api.ERecord, e, e)
	}
	h.ends(t, "records", h.decs(h.val(p, e)), api.Done, 0)
}

// P12.2: an NBind, a declaration, a rule that stands at many places of one list.
func TestListsOfOne(t *testing.T) {
	t.Parallel()
	for _, n := range []int{1, 2, 3, 4, 7, 100, 10000, 100000, 300000} {
		done := func(h *hand, what string, root, printed int) {
			t.Helper()
			if n > api.MaxRun {
				h.ends(t, "many "+what, root, api.OutOfFuel, 0)
			} else {
				h.ends(t, strconv.Itoa(n)+" "+what, root, api.Done, printed)
			}
		}
		h := &hand{}
		bind := h.put(api.NBind, "", h.put(api.PWild, ""), h.put(api.ERecord, ""))
		done(h, "binds", h.decs(h.put(api.DVal, "", times(n, bind)...)), 0)
		h = &hand{}
		done(h, "times nothing", h.decs(times(n, h.idle("t"))...), 0)
		h = &hand{}
		rule, rest := h.put(api.NRule, "", h.put(api.NInt, "1"), h.prints("y")), h.put(api.NRule, "", h.put(api.PWild, ""), h.prints("x"))
		f := h.put(api.EFn, "", append(times(n, rule), rest)...)
		done(h, "rules", h.decs(h.val(h.put(api.PWild, ""), h.put(api.EApp, "", f, h.put(api.NInt, "0")))), 1)
		h = &hand{}
		rule, rest = h.put(api.NRule, "", h.pair(api.PRecord, h.put(api.NInt, "0"), h.put(api.NInt, "1")), h.prints("y")), h.put(api.NRule, "", h.put(api.PWild, ""), h.prints("x"))
		f = h.put(api.EFn, "", append(times(n/3, rule), rest)...)
		if n <= 100000 {
			h.ends(t, "pairs", h.decs(h.val(h.put(api.PWild, ""), h.put(api.EApp, "", f, h.pair(api.ERecord, h.put(api.NInt, "0"), h.put(api.NInt, "0"))))), api.Done, 1)
		}
		if n > 10000 {
			continue
		}
		h = &hand{}
		bind = h.put(api.NBind, "", h.put(api.PWild, ""), h.prints("x"))
		done(h, "prints", h.decs(h.put(api.DVal, "", times(n, bind)...)), n)
		h = &hand{}
		done(h, "declarations", h.decs(times(n, h.val(h.put(api.PWild, ""), h.prints("x")))...), n)
		h = &hand{}
		done(h, "names", h.decs(times(n, h.val(h.put(api.PName, "x"), h.prints("x")))...), n)
	}
}

// idle is a declaration that does nothing.
func (h *hand) idle(name string) int {
	return h.put(api.DType, "", h.put(api.NTybind, name, h.put(api.TCon, "int")))
}

// P12.2: lists in which two nodes stand in turn.
func TestListsOfTwo(t *testing.T) {
	t.Parallel()
	for _, n := range []int{1, 2, 3, 50, 1000, 10000} {
		h := &hand{}
		h.ends(t, "nothing", h.decs(slices.Repeat([]int{h.idle("t"), h.idle("u")}, n)...), api.Done, 0)
		h = &hand{}
		x := h.val(h.put(api.PName, "x"), h.prints("x"))
		y := h.val(h.put(api.PWild, ""), h.put(api.EName, "x"))
		l := []api.Unit{h.unit(t, h.decs(slices.Repeat([]int{x, y}, n)...))}
		o, _ := Run(l, nil, api.MaxRun)
		b2, _ := lambda.Run(lowers(t, l), nil, 1<<25)
		if !alike(o, b2) || o.Status != api.Done || len(o.Out) != n {
			t.Errorf("%d: %s; lowered %s", n, showOutcome(o), showOutcome(b2))
		}
		h = &hand{}
		first, second := h.put(api.NRule, "", h.put(api.NInt, "1"), h.prints("y")), h.put(api.NRule, "", h.put(api.NInt, "2"), h.prints("z"))
		f := h.put(api.EFn, "", append(slices.Repeat([]int{first, second}, n), h.put(api.NRule, "", h.put(api.NInt, "0"), h.prints("x")))...)
		h.ends(t, "rules", h.decs(h.val(h.put(api.PWild, ""), h.put(api.EApp, "", f, h.put(api.NInt, "0")))), api.Done, 1)
	}
}

// P12.2: locals of the same declarations twice, within one another.
func TestLocalsTwice(t *testing.T) {
	t.Parallel()
	for _, n := range []int{0, 1, 2, 5, 12} {
		for name, leaf := range map[string]func(h *hand) int{
			"nothing": func(h *hand) int { return h.idle("t") },
			"_":       func(h *hand) int { return h.val(h.put(api.PWild, ""), h.prints("x")) },
			"x":       func(h *hand) int { return h.val(h.put(api.PName, "x"), h.prints("x")) },
			"f": func(h *hand) int {
				return h.put(api.DRec, "", h.put(api.NBind, "", h.put(api.PName, "f"), h.fn(h.put(api.PName, "y"), h.put(api.EName, "y"))))
			},
		} {
			for _, own := range []bool{false, true} {
				h := &hand{}
				d := leaf(h)
				for range n {
					decs := h.decs(d)
					again := decs
					if own {
						again = h.decs(d)
					}
					d = h.put(api.DLocal, "", decs, again)
				}
				root := h.decs(d, h.val(h.put(api.PWild, ""), h.put(api.ERecord, "")))
				l := []api.Unit{h.unit(t, root)}
				o, _ := Run(l, nil, api.MaxRun)
				if p := lowers(t, l); len(p.Nodes) > 64*size(l)+200 {
					t.Errorf("%s %d: %d nodes", name, n, len(p.Nodes))
				}
				h.ends(t, name+strconv.Itoa(n), root, api.Done, len(o.Out))
			}
		}
	}
}

// P12.1, P12.2: a structure, and declarations, at several places.
func TestStructuresTwice(t *testing.T) {
	h := &hand{}
	s := h.put(api.SStruct, "", h.decs(h.val(h.put(api.PName, "x"), h.prints("x"))))
	for range 12 {
		s = h.put(api.SStruct, "", h.decs(h.put(api.DStr, "", h.put(api.NStr, "A", s), h.put(api.NStr, "B", s))))
	}
	o, _ := Run([]api.Unit{h.unit(t, h.decs(h.put(api.DStr, "", h.put(api.NStr, "S", s))))}, nil, api.MaxRun)
	h.ends(t, "structures", len(h.l)-1, api.Done, 1<<12)
	if len(o.Out) != 1<<12 {
		t.Errorf("%d printed", len(o.Out))
	}
	h = &hand{} // one NDecs, in many lets
	decs := h.decs(h.val(h.put(api.PName, "x"), h.prints("x")), h.val(h.put(api.PName, "y"), h.put(api.EName, "x")))
	e := h.put(api.ERecord, "")
	for range 50 {
		e = h.put(api.ELet, "", decs, h.seq(h.put(api.EName, "y"), e))
	}
	h.ends(t, "lets", h.decs(h.val(h.put(api.PWild, ""), e)), api.Stuck, 1)
}

// P12.2: a node that stands at two places has but one note: so a variable may be bound to nothing where it is asked for. Its program is one, and stuck just there.
func TestUnbound(t *testing.T) {
	h := &hand{}
	x := h.val(h.put(api.PName, "x"), h.put(api.NInt, "1"))
	f := h.val(h.put(api.PName, "f"), h.fn(h.put(api.PRecord, ""), h.seq(h.prints("y"), h.put(api.EName, "x"))))
	h.ends(t, "never asked for", h.decs(x, f, x, h.val(h.put(api.PWild, ""), h.prints("x"))), api.Done, 1)
	h.ends(t, "asked for", h.decs(x, f, x, h.val(h.put(api.PWild, ""), h.app("f", h.put(api.ERecord, "")))), api.Stuck, 1)
	h.ends(t, "asked for ahead", h.decs(x, h.val(h.put(api.PWild, ""), h.put(api.EName, "x")), x), api.Stuck, 0)
	g := h.val(h.put(api.PName, "g"), h.fn(h.put(api.PRecord, ""), h.put(api.EName, "x")))
	h.ends(t, "in one of two", h.decs(x, h.val(h.put(api.PWild, ""), h.prints("x")), x, g, x, h.val(h.put(api.PWild, ""), h.prints("z"))), api.Done, 2)
	e := h.put(api.DExn, "", h.put(api.NCon, "E"))
	r := h.val(h.put(api.PWild, ""), h.put(api.EHandle, "", h.seq(h.prints("x"), h.put(api.ERaise, "", h.put(api.EName, "E"))), h.put(api.NRule, "", h.put(api.PWild, ""), h.put(api.ERecord, ""))))
	h.ends(t, "an exception", h.decs(e, r, e), api.Stuck, 1)
}
