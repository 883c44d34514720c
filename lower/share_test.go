package lower

import (
	"slices"
	"strconv"
	"testing"

	"kiln/api"
)

// P12.2: trees of few nodes that stand at so many places that a program with each of them at each place is too many nodes.

// safe fails the test, if a unit ends otherwise than it must, or is not of the sizes that say something.
func (h *hand) safe(t *testing.T, name string, root int, want string) {
	t.Helper()
	l := []api.Unit{h.unit(t, root)}
	if n := size(l); n > mostSafe || !hasRepeats(newUnits(l)[0]) {
		t.Fatalf("%s: %d nodes and parts", name, n)
	}
	if _, e := written(newUnits(l), (*writer).program); e != api.ErrMany {
		t.Fatalf("%s: there is room for all", name)
	}
	does(t, l, want)
}

// turned is a list that begins elsewhere.
func turned(l []int, by int) []int {
	by %= len(l)
	return append(slices.Clone(l[by:]), l[:by]...)
}

// said is a number as an expression or a constant of a pattern.
func (h *hand) said(n int) int { return h.put(api.NInt, strconv.Itoa(n)) }

// shows prints a number.
func (h *hand) shows(of int) int {
	text, print := h.put(api.EName, "intText"), h.put(api.EName, "print")
	h.l[text].Path, h.l[print].Path = []string{"Prim"}, []string{"Prim"}
	return h.val(h.put(api.PWild, ""), h.put(api.EApp, "", print, h.put(api.EApp, "", text, of)))
}

// P12.2: rules that many functions have, each in another order.
func TestRulesOfMany(t *testing.T) {
	t.Parallel()
	h := &hand{}
	var rules, decs []int
	e := h.said(3)
	for n := range 800 {
		rules = append(rules, h.put(api.NRule, "", h.said(n), e))
	}
	seventh := h.put(api.NRule, "", h.said(7), h.said(4))
	for n := range 500 {
		list := append(turned(rules, n*13), seventh)
		if n%2 == 1 {
			list = append([]int{seventh}, turned(rules, n*7)...)
		}
		decs = append(decs, h.val(h.put(api.PName, "f"+strconv.Itoa(n)), h.put(api.EFn, "", list...)))
	}
	for _, f := range []string{"f0", "f1", "f498", "f499"} {
		decs = append(decs, h.shows(h.app(f, h.said(7))))
	}
	wrong := h.val(h.put(api.PWild, ""), h.app("f499", h.said(800)))
	h.safe(t, "rules", h.decs(append(decs, wrong)...), `"3" "4" "3" "4" uncaught Match`)
}

// P12.2: rules that many handlers have.
func TestHandlersOfMany(t *testing.T) {
	t.Parallel()
	h := &hand{}
	var names, rules, raises, decs []int
	for n := range 200 {
		name := "E" + strconv.Itoa(n)
		names = append(names, h.put(api.NCon, name))
		rules = append(rules, h.put(api.NRule, "", h.put(api.PName, name), h.said(n)))
		raises = append(raises, h.put(api.ERaise, "", h.put(api.EName, name)))
	}
	decs = append(decs, h.put(api.DExn, "", names...))
	wild := h.put(api.PWild, "")
	for n := range 450 {
		e := h.put(api.EHandle, "", append([]int{raises[n%200]}, turned(rules, 3*n)...)...)
		decs = append(decs, h.val(h.put(api.PName, "f"+strconv.Itoa(n)), h.fn(wild, e)))
	}
	for _, n := range []int{0, 99, 200, 399} {
		decs = append(decs, h.shows(h.app("f"+strconv.Itoa(n), h.said(7))))
	}
	last := h.put(api.EHandle, "", append([]int{h.put(api.ERaise, "", h.put(api.EName, "Chr"))}, rules...)...)
	h.safe(t, "handlers", h.decs(append(decs, h.val(wild, last))...), `"0" "99" "0" "199" uncaught Chr`)
}

// P12.2: a great pattern of many bindings, and of many functions.
func TestPatternsOfMany(t *testing.T) {
	t.Parallel()
	for name, times := range map[string]int{"bindings": 480, "functions": 700} {
		h := &hand{}
		var asks, has []int
		wild, one := h.put(api.PWild, ""), h.said(1)
		for n := range 250 {
			label := "l" + strconv.Itoa(n)
			p := one
			if n%5 > 2 {
				p = h.put(api.PName, "x"+strconv.Itoa(n))
			} else if n%10 == 1 {
				p = wild
			}
			asks = append(asks, h.put(api.NField, label, p))
			has = append(has, h.put(api.NField, label, one))
		}
		pattern, record := h.put(api.PRecord, "", asks...), h.put(api.ERecord, "", has...)
		last := h.put(api.NField, "l246", h.said(2))
		other := h.put(api.ERecord, "", slices.Concat(has[:246], []int{last}, has[247:])...)
		x, f, inner := h.put(api.EName, "x3"), h.put(api.PName, "f"), h.decs(h.val(pattern, record))
		var decs []int
		for range times {
			e := h.fn(pattern, x)
			if name == "bindings" {
				e = h.fn(wild, h.put(api.ELet, "", inner, x))
			}
			decs = append(decs, h.val(f, e))
		}
		g := h.fn(pattern, x)
		for _, e := range []int{h.app("f", record), h.put(api.EApp, "", g, record), h.put(api.EApp, "", g, other)} {
			decs = append(decs, h.shows(e))
		}
		h.safe(t, name, h.decs(decs...), `"1" "1" uncaught Match`)
	}
}

// P12.2: fields that many records and patterns of records list, each in another order.
func TestFieldsOfMany(t *testing.T) {
	t.Parallel()
	h := &hand{}
	var has, asks, decs []int
	counter := h.put(api.EName, "c")
	next := h.put(api.EApp, "", h.put(api.EName, "+"), h.pair(api.ERecord, h.app("!", counter), h.said(1)))
	set := h.put(api.EApp, "", h.put(api.EName, ":="), h.pair(api.ERecord, counter, next))
	count := h.seq(set, h.app("!", counter)) // how often it is asked
	decs = append(decs, h.val(h.put(api.PName, "c"), h.app("ref", h.said(0))))
	for n := range 115 {
		label := "l" + strconv.Itoa(n)
		has = append(has, h.put(api.NField, label, count))
		asks = append(asks, h.put(api.NField, label, h.put(api.PName, "x"+strconv.Itoa(n))))
	}
	wild, none, seventh := h.put(api.PWild, ""), h.put(api.ERecord, ""), h.put(api.EName, "x7")
	for n := range 300 {
		r, p := h.put(api.ERecord, "", turned(has, 5*n)...), h.put(api.PRecord, "", turned(asks, 3*n)...)
		decs = append(decs, h.val(h.put(api.PName, "f"+strconv.Itoa(n)), h.fn(wild, r)))
		decs = append(decs, h.val(h.put(api.PName, "g"+strconv.Itoa(n)), h.fn(p, seventh)))
	}
	for _, n := range []int{0, 1, 2, 100, 299} {
		name := strconv.Itoa(n)
		decs = append(decs, h.shows(h.app("g"+name, h.app("f"+name, none))))
	}
	root := h.decs(decs...)
	h.safe(t, "fields", root, `"8" "118" "343" "428" "468" done`)
}

// P12.2: declarations that many lets have.
func TestDeclarationsOfMany(t *testing.T) {
	t.Parallel()
	h := &hand{}
	var decs []int
	inner := []int{h.val(h.put(api.PName, "x0"), h.prints("x"))}
	for n := range 400 {
		d := h.val(h.put(api.PName, "x"+strconv.Itoa(n+1)), h.put(api.EName, "x"+strconv.Itoa(n)))
		inner = append(inner, d, d)
	}
	shared, e, wild := h.decs(inner...), h.put(api.EName, "x400"), h.put(api.PWild, "")
	for n := range 330 {
		let := h.put(api.ELet, "", shared, e)
		if n%3 == 0 {
			let = h.put(api.ELet, "", h.decs(h.put(api.DLocal, "", shared, h.decs(inner...))), e)
		}
		decs = append(decs, h.val(h.put(api.PName, "f"+strconv.Itoa(n)), h.fn(wild, let)))
	}
	for _, n := range []int{1, 2, 326, 327} {
		decs = append(decs, h.val(wild, h.app("f"+strconv.Itoa(n), h.put(api.ERecord, ""))))
	}
	h.safe(t, "declarations", h.decs(decs...), `"x" "x" "x" "x" "x" done`)
}

// P12.2: functions and exceptions that many declarations list.
func TestFunctionsOfMany(t *testing.T) {
	t.Parallel()
	h := &hand{}
	var functions, names, outer []int
	wild, none, prints := h.put(api.PWild, ""), h.put(api.ERecord, ""), h.prints("x")
	for n := range 150 {
		does := h.seq(prints, h.app("f"+strconv.Itoa(n*9/10), none))
		if n == 0 {
			does = h.put(api.ERaise, "", h.put(api.EName, "E77"))
		}
		functions = append(functions, h.put(api.NBind, "", h.put(api.PName, "f"+strconv.Itoa(n)), h.fn(wild, does)))
		names = append(names, h.put(api.NCon, "E"+strconv.Itoa(n)))
	}
	called := h.app("f5", none)
	for n := range 250 {
		exceptions, recursive := h.put(api.DExn, "", turned(names, n*7)...), h.put(api.DRec, "", turned(functions, n*3)...)
		let := h.put(api.ELet, "", h.decs(exceptions, recursive), called)
		outer = append(outer, h.put(api.NBind, "", h.put(api.PName, "g"+strconv.Itoa(n)), h.fn(wild, let)))
	}
	last := h.val(wild, h.app("g150", none))
	h.safe(t, "functions", h.decs(h.put(api.DVal, "", outer...), last), `"x" "x" "x" "x" "x" uncaught E77`)
}

// P12.2: structures that many declarations list.
func TestStructuresOfMany(t *testing.T) {
	t.Parallel()
	h := &hand{}
	empty, none := h.put(api.SStruct, "", h.decs()), h.put(api.NSig, "X", h.put(api.GSig, ""))
	within := h.put(api.SStruct, "", h.decs(h.val(h.put(api.PName, "y"), h.said(1))))
	prints := h.put(api.SStruct, "", h.decs(h.val(h.put(api.PWild, ""), h.prints("x"))))
	var inner, outer []int
	for n := range 300 {
		inner = append(inner, h.put(api.NStr, "B"+strconv.Itoa(n), []int{within, prints}[n/298]))
	}
	used := h.decs(h.put(api.DStr, "", h.put(api.NStr, "Z", h.put(api.SName, "B7"))))
	for n := range 450 {
		own := h.decs(h.put(api.DStr, "", turned(inner, 11*n)...))
		let := h.put(api.SLet, "", own, h.put(api.SLet, "", used, empty))
		outer = append(outer, h.put(api.NFct, "F"+strconv.Itoa(n), none, let))
	}
	applied := h.put(api.DStr, "", h.put(api.NStr, "S", h.put(api.SApp, "F449", empty)), h.put(api.NStr, "T", h.put(api.SApp, "F3", empty)))
	h.safe(t, "structures", h.decs(h.put(api.DFct, "", outer...), applied), `"x" "x" "x" "x" done`)
}

// P12.2: functors that many declarations list.
func TestFunctorsOfMany(t *testing.T) {
	t.Parallel()
	h := &hand{}
	empty, none := h.put(api.SStruct, "", h.decs()), h.put(api.NSig, "X", h.put(api.GSig, ""))
	var inner, decs []int
	for n := range 300 {
		body := h.put(api.SStruct, "", h.decs(h.val(h.put(api.PWild, ""), h.prints(strconv.Itoa(n)))))
		inner = append(inner, h.put(api.NFct, "F"+strconv.Itoa(n), none, body))
	}
	for n := range 900 {
		decs = append(decs, h.put(api.DFct, "", turned(inner, 11*n)...))
	}
	decs = append(decs, h.put(api.DStr, "", h.put(api.NStr, "S", h.put(api.SApp, "F77", empty)), h.put(api.NStr, "T", h.put(api.SApp, "F299", empty))))
	h.safe(t, "functors", h.decs(decs...), `"77" "299" done`)
}

// P12.2: lists of which each one is one step, however many it lists: a program takes not too many steps for that.
func TestLongListsOfOneStep(t *testing.T) {
	t.Parallel()
	for _, kind := range []api.NodeKind{api.DRec, api.DExn, api.DFct} {
		for _, k := range []int{1, 5, 60, 1900} {
			for _, times := range []int{1, 2, 40} {
				h := &hand{}
				empty, none := h.put(api.SStruct, "", h.decs()), h.put(api.NSig, "X", h.put(api.GSig, ""))
				f := h.fn(h.put(api.PWild, ""), h.put(api.ERecord, ""))
				var kids []int
				for n := range k {
					name := "E" + strconv.Itoa(n)
					switch kind {
					case api.DRec:
						kids = append(kids, h.put(api.NBind, "", h.put(api.PName, name), f))
					case api.DExn:
						kids = append(kids, h.put(api.NCon, name))
					default:
						kids = append(kids, h.put(api.NFct, name, none, empty))
					}
				}
				var decs []int
				for n := range times {
					decs = append(decs, h.put(kind, "", turned(kids, n)...))
				}
				repeated := h.idle("t")
				decs = append(decs, repeated, repeated)
				l := []api.Unit{h.unit(t, h.decs(decs...))}
				if !hasRepeats(newUnits(l)[0]) || size(l) > mostSafe {
					t.Fatal(size(l))
				}
				o := does(t, l, "done")
				p := lowers(t, l)
				for fuel := o.Steps; fuel >= 0; fuel -= 1 + k/100 {
					held(t, l, p, nil, fuel)
				}
			}
		}
	}
}

// P12.2: exceptions, functions, structures and functors that one declaration lists many times.
func TestKidsTwice(t *testing.T) {
	t.Parallel()
	for _, n := range []int{1, 2, 3, 1000, 20000} {
		h := &hand{}
		wild, unit := h.put(api.PWild, ""), h.put(api.ERecord, "")
		bind := h.put(api.NBind, "", h.put(api.PName, "f"), h.fn(wild, h.prints("x")))
		other := h.put(api.NBind, "", h.put(api.PName, "g"), h.fn(wild, h.app("f", unit)))
		list := slices.Concat(times(n, bind), []int{other}, times(n, bind))
		h.ends(t, "functions", h.decs(h.put(api.DRec, "", list...), h.val(wild, h.app("g", unit))), api.Done, 1)
		h = &hand{}
		e, f := h.put(api.NCon, "E"), h.put(api.NCon, "F")
		raised := h.put(api.ERaise, "", h.put(api.EName, "E"))
		rules := []int{h.put(api.NRule, "", h.put(api.PName, "F"), h.prints("y")), h.put(api.NRule, "", h.put(api.PName, "E"), h.prints("x"))}
		handled := h.val(h.put(api.PWild, ""), h.put(api.EHandle, "", append([]int{raised}, rules...)...))
		h.ends(t, "exceptions", h.decs(h.put(api.DExn, "", slices.Concat(times(n, e), []int{f}, times(n, e))...), handled), api.Done, 1)
		h = &hand{}
		sig := h.put(api.NSig, "X", h.put(api.GSig, ""))
		prints := h.put(api.SStruct, "", h.decs(h.val(h.put(api.PWild, ""), h.prints("x"))))
		functor, another := h.put(api.NFct, "F", sig, prints), h.put(api.NFct, "G", sig, h.put(api.SStruct, "", h.decs()))
		applied := h.put(api.DStr, "", h.put(api.NStr, "S", h.put(api.SApp, "F", h.put(api.SStruct, "", h.decs()))))
		h.ends(t, "functors", h.decs(h.put(api.DFct, "", slices.Concat(times(n, functor), []int{another}, times(n, functor))...), applied), api.Done, 1)
		h = &hand{}
		s := h.put(api.NStr, "S", h.put(api.SStruct, "", h.decs()))
		last := h.put(api.NStr, "T", h.put(api.SStruct, "", h.decs(h.val(h.put(api.PWild, ""), h.prints("x")))))
		h.ends(t, "structures", h.decs(h.put(api.DStr, "", append(times(n, s), last)...)), api.Done, 1)
	}
}

// P12.2: of functions of one name the first one counts, as in a run.
func TestOneNameOfTwo(t *testing.T) {
	h := &hand{}
	wild, none, name := h.put(api.PWild, ""), h.put(api.ERecord, ""), h.put(api.PName, "f")
	x, y := h.put(api.NBind, "", name, h.fn(wild, h.prints("x"))), h.put(api.NBind, "", name, h.fn(wild, h.seq(h.prints("y"), h.prints("z"))))
	called := h.val(wild, h.app("f", none))
	h.ends(t, "x ahead", h.decs(h.put(api.DRec, "", x, y), called), api.Done, 1)
	h.ends(t, "y ahead", h.decs(h.put(api.DRec, "", y, x), called), api.Done, 2)
	h.ends(t, "x twice", h.decs(h.put(api.DRec, "", x, y, x), called), api.Done, 1)
}

// P12.2: environments of as many variables as there may be, up to where tuples of tuples have no room and beyond.
func TestVariables(t *testing.T) {
	t.Parallel()
	for _, n := range []int{1, 2, 7, 8, 9, 63, 64, 65, 511, 512, 513, 4095, 4096, 4097} {
		h := &hand{}
		var decs []int
		for i := range n {
			decs = append(decs, h.val(h.put(api.PName, "x"+strconv.Itoa(i)), h.said(i)))
		}
		f := h.val(h.put(api.PName, "x0"), h.fn(h.put(api.PWild, ""), h.put(api.EName, "x"+strconv.Itoa(n/2))))
		decs = append(decs, f, h.idle("t"), len(h.l)-1)
		for _, i := range []int{1, n / 3, n - 1} {
			if i > 0 && i < n {
				decs = append(decs, h.val(h.said(i), h.put(api.EName, "x"+strconv.Itoa(i))))
			}
		}
		if n > 1 {
			decs = append(decs, h.val(h.said(n/2), h.app("x0", h.put(api.ERecord, ""))))
		}
		l := []api.Unit{h.unit(t, h.decs(decs...))}
		if !hasRepeats(newUnits(l)[0]) {
			t.Fatal("nothing is repeated")
		}
		does(t, l, "done")
	}
}

// P12.2: records of as many labels as there may be, asked by patterns of which some stand at several places.
func TestWideRecordsTwice(t *testing.T) {
	t.Parallel()
	for _, n := range []int{1, 2, 100, 254, 255, 256} {
		for _, wrong := range []int{0, n / 2, n - 1} {
			h := &hand{}
			var has, asks, other []int
			for i := range n {
				label := "l" + strconv.Itoa(i)
				has = append(has, h.put(api.NField, label, h.said(i)))
				asks = append(asks, h.put(api.NField, label, h.said(i)))
				other = append(other, asks[i])
			}
			other[wrong] = h.put(api.NField, "l"+strconv.Itoa(wrong), h.said(1000))
			r, p := h.put(api.ERecord, "", has...), h.put(api.PRecord, "", turned(asks, n/3)...)
			d := h.val(p, r)
			decs := []int{d, h.val(h.put(api.PWild, ""), h.prints("x")), d, h.val(h.put(api.PRecord, "", other...), r)}
			h.ends(t, strconv.Itoa(n), h.decs(decs...), api.Uncaught, 1)
		}
	}
}

// P12.2: lists longer than a text, in which two nodes stand in turn.
func TestLongLists(t *testing.T) {
	t.Parallel()
	const most = api.MaxString / elementSize
	for _, n := range []int{most / 2, most/2 + 1, most, 2*most + 3} {
		h := &hand{}
		wild, none := h.put(api.PWild, ""), h.put(api.ERecord, "")
		x := h.put(api.NBind, "", wild, none)
		y := h.put(api.NBind, "", h.put(api.PRecord, ""), none)
		l := slices.Repeat([]int{x, y}, n)
		l = append(l[:2*n-1], h.put(api.NBind, "", wild, h.prints("x")))
		h.ends(t, "bindings", h.decs(h.put(api.DVal, "", l...)), api.Done, 1)
		h = &hand{}
		first, second := h.put(api.NRule, "", h.put(api.NString, "a"), h.prints("y")), h.put(api.NRule, "", h.put(api.NString, "b"), h.prints("z"))
		last := h.put(api.NRule, "", h.put(api.NString, "c"), h.prints("x"))
		f := h.put(api.EFn, "", append(slices.Repeat([]int{first, second}, n), last)...)
		h.ends(t, "rules", h.decs(h.val(h.put(api.PWild, ""), h.put(api.EApp, "", f, h.put(api.NString, "c")))), api.Done, 1)
	}
}

// P12.2: more than 256 unlike nodes in lists, each of which is found again.
func TestUnlikeItems(t *testing.T) {
	t.Parallel()
	for _, n := range []int{255, 256, 257, 511, 513, 700} {
		h := &hand{}
		var rules, decs []int
		for i := range n {
			rules = append(rules, h.put(api.NRule, "", h.said(i), h.said(i+1)))
		}
		list := h.put(api.EFn, "", rules...)
		again := h.put(api.EFn, "", turned(rules, 300)...)
		for _, i := range []int{0, 1, 254, n - 1} {
			for _, f := range []int{list, again} {
				decs = append(decs, h.val(h.said(i+1), h.put(api.EApp, "", f, h.said(i))))
			}
		}
		h.ends(t, strconv.Itoa(n), h.decs(decs...), api.Done, 0)
	}
}

// A node that says a constant may be an expression and a pattern at once.
func TestConstantsTwice(t *testing.T) {
	for _, kind := range []api.NodeKind{api.NInt, api.NString, api.NChar} {
		h := &hand{}
		one, two := h.put(kind, "1"), h.put(kind, "2")
		f := h.put(api.EFn, "", h.put(api.NRule, "", one, two), h.put(api.NRule, "", two, one))
		first, second := h.val(two, h.put(api.EApp, "", f, one)), h.val(one, h.put(api.EApp, "", f, two))
		same := h.put(api.EApp, "", h.fn(one, h.prints("x")), one)
		h.ends(t, "constants", h.decs(first, second, h.val(h.put(api.PWild, ""), same), h.val(one, two)), api.Uncaught, 1)
	}
}

// Nodes of texts stand at one place each, so that these take the way that makes less nodes.
func TestTextsHaveNoRepeats(t *testing.T) {
	wholes(t, 0, 300, func(seed int64, text string, l []api.Unit) {
		if slices.ContainsFunc(newUnits(l), hasRepeats) {
			t.Fatalf("seed %d:\n%s", seed, text)
		}
	})
	if slices.ContainsFunc(newUnits(sampleUnits(t)), hasRepeats) {
		t.Error("the sample")
	}
}
