package elab

import "kiln/api"

// hand puts a node that is made by hand into the tree.
func (d *desk) hand(kind api.NodeKind, text string, kids ...int) int {
	d.l = append(d.l, api.Node{Kind: kind, Text: text, Kids: kids})
	return len(d.l) - 1
}

// handRecord is a record of parts that are all of a kind, without texts.
func (d *desk) handRecord(kind, part api.NodeKind, labels []string) int {
	var kids []int
	for _, s := range labels {
		kids = append(kids, d.hand(api.NField, s, d.hand(part, "")))
	}
	return d.hand(kind, "", kids...)
}

// handVal begins a tree of one DVal.
func (d *desk) handVal(pattern, expression int) {
	d.t.Helper()
	d.root = d.hand(api.DVal, "", d.hand(api.NBind, "", pattern, expression))
	d.start()
}

// handTop begins a tree of declarations.
func (d *desk) handTop(decs ...int) {
	d.t.Helper()
	d.root = d.hand(api.NDecs, "", decs...)
	d.start()
}
