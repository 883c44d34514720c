package types

import (
	"slices"
	"strconv"
	"strings"

	"kiln/api"
	"kiln/labels"
)

// areLabels tells whether these may be the labels of so many types.
func areLabels(l []string, args int) bool {
	if len(l) != args || len(l) > api.MaxLabels {
		return false
	}
	for i, s := range l {
		if s == "" || i > 0 && labels.Compare(l[i-1], s) >= 0 {
			return false
		}
	}
	return true
}

// isTuple tells whether a type is a record with the labels 1 to n, n at least 2.
func isTuple(t api.Type) bool {
	n := len(t.Labels)
	return t.Kind == api.YRec && n >= 2 && t.Labels[n-1] == strconv.Itoa(n) // so those ahead are lower numbers, and as many as there are
}

// fields are labels with their types.
type fields struct {
	labels []string
	types  []int
}

// add puts a field behind the others.
func (f *fields) add(label string, t int) {
	f.labels, f.types = append(f.labels, label), append(f.types, t)
}

// joined are the fields of two types, in order, each label once; and the two types of each label that both have.
func joined(x, y api.Type) (fields, [][2]int) {
	var all fields
	var twice [][2]int
	i, k := 0, 0
	for i < len(x.Labels) && k < len(y.Labels) {
		order := labels.Compare(x.Labels[i], y.Labels[k])
		if order == 0 {
			twice = append(twice, [2]int{x.Args[i], y.Args[k]})
		}
		if order > 0 {
			all.add(y.Labels[k], y.Args[k])
		} else {
			all.add(x.Labels[i], x.Args[i])
		}
		if order <= 0 {
			i++
		}
		if order >= 0 {
			k++
		}
	}
	all.labels = slices.Concat(all.labels, x.Labels[i:], y.Labels[k:])
	all.types = slices.Concat(all.types, x.Args[i:], y.Args[k:])
	return all, twice
}

// cloneTexts is the same texts in new memory.
func cloneTexts(l []string) []string {
	l = slices.Clone(l)
	for i, s := range l {
		l[i] = strings.Clone(s)
	}
	return l
}
