package lower

import (
	"slices"

	"kiln/api"
	"kiln/labels"
	"kiln/values"
)

// unit is a unit, with what was worked out of its nodes.
type unit struct {
	api.Unit
	constants map[int]values.Value
	fields    map[int][]int // of an ERecord, a PRecord: the place of each of its NFields in the tuple
}

func newUnits(l []api.Unit) []*unit {
	var all []*unit
	for _, u := range l {
		all = append(all, &unit{u, map[int]values.Value{}, map[int][]int{}})
	}
	return all
}

// kids are a node's kids.
func (u *unit) kids(i int) []int { return u.Nodes[i].Kids }

// decs are the declarations of the NDecs that is the first kid of a node.
func (u *unit) decs(i int) []int { return u.kids(u.kids(i)[0]) }

// held is what an NField has.
func (u *unit) held(i int) int { return u.kids(i)[0] }

// body is a node without the types that are said of it.
func (u *unit) body(i int) int {
	for u.Nodes[i].Kind == api.ETyped || u.Nodes[i].Kind == api.PTyped {
		i = u.kids(i)[0]
	}
	return i
}

// nowhere is the place of a field that its record has not.
const nowhere = -1

// recordPlaces are the places of an ERecord's fields in the tuple: in the order of labels.
func (u *unit) recordPlaces(i int) []int {
	places, ok := u.fields[i]
	if ok {
		return places
	}
	kids := u.kids(i)
	var rising []int
	for k := range kids {
		rising = append(rising, k)
	}
	slices.SortStableFunc(rising, func(a, b int) int { return labels.Compare(u.Nodes[kids[a]].Text, u.Nodes[kids[b]].Text) })
	places = make([]int, len(kids))
	for place, k := range rising {
		places[k] = place
	}
	u.fields[i] = places
	return places
}

// patternPlaces are the places of a PRecord's fields: where their labels stand among the note's.
func (u *unit) patternPlaces(i int) []int {
	places, ok := u.fields[i]
	if ok {
		return places
	}
	at := map[string]int{}
	for place, label := range slices.Backward(u.Notes[i].Labels) {
		at[label] = place
	}
	for _, k := range u.patternFields(i) {
		place, ok := at[u.Nodes[k].Text]
		if !ok {
			place = nowhere
		}
		places = append(places, place)
	}
	u.fields[i] = places
	return places
}

// patternFields are a PRecord's NFields.
func (u *unit) patternFields(i int) []int {
	kids := u.kids(i)
	if n := len(kids); n > 0 && u.Nodes[kids[n-1]].Kind == api.PDots {
		return kids[:n-1]
	}
	return kids
}

// noteOf says of an entry what a note would: in a structure primitives are none of an overloaded name.
func noteOf(e api.Entry) api.Note {
	n := api.Note{Is: e.Is, Name: e.Name, At: e.At, Con: e.Con, Tag: e.Tag, Count: e.Count, Arg: e.Arg}
	if n.Is == api.SPrim {
		n.Con = -1
	}
	return n
}

// nobody is the variable of the structure Prim, which has no fields: so it is the int 0.
const nobody = 0

// cut is a text without what is too much for a string.
func cut(s string) string { return s[:min(len(s), api.MaxString)] }

// prim is the name by which a primitive is known.
type prim struct {
	name string
	con  int
}

// primPlaces are the places of all primitives.
func primPlaces() map[prim]int {
	places := map[prim]int{}
	for i, p := range api.Prims() {
		places[prim{p.Name, p.Con}] = i
	}
	return places
}

// exceptions are the names of the exceptions with the numbers from 1 on.
func exceptions() []string {
	return []string{"Bind", "Chr", "Div", "Domain", "Match", "Overflow", "Size", "Subscript"}
}
