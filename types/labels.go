package types

import (
	"cmp"
	"slices"
	"strconv"
	"strings"

	"kiln/api"
)

// areLabels tells whether these may be the labels of so many types.
func areLabels(labels []string, args int) bool {
	if len(labels) != args || len(labels) > api.MaxLabels {
		return false
	}
	for i, s := range labels {
		if s == "" || i > 0 && compareLabels(labels[i-1], s) >= 0 {
			return false
		}
	}
	return true
}

// compareLabels is below 0, 0 or above 0, as the first label stands ahead of the second one, is it, or stands behind it.
func compareLabels(s, t string) int {
	switch {
	case isNumber(s) && isNumber(t): // of numbers without a zero ahead the longer one is the greater one
		return cmp.Or(cmp.Compare(len(s), len(t)), strings.Compare(s, t))
	case isNumber(s):
		return -1
	case isNumber(t):
		return 1
	}
	return strings.Compare(s, t)
}

// isNumber tells whether a label, which is not empty, is one of digits alone, without a zero ahead.
func isNumber(label string) bool {
	for i := range len(label) {
		if label[i] < '0' || label[i] > '9' {
			return false
		}
	}
	return label[0] != '0'
}

// isTuple tells whether a type is a record with the labels 1 to n, n at least 2.
func isTuple(t api.Type) bool {
	n := len(t.Labels)
	return t.Kind == api.YRec && n >= 2 && t.Labels[n-1] == strconv.Itoa(n) // so those ahead are lower numbers, and as many as there are
}

// fields are labels with their types.
type fields struct {
	labels []string
	types  []int
}

// add puts a field behind the others.
func (f *fields) add(label string, t int) {
	f.labels, f.types = append(f.labels, label), append(f.types, t)
}

// joined are the fields of two types, in order, each label once; and the two types of each label that both have.
func joined(x, y api.Type) (fields, [][2]int) {
	var all fields
	var twice [][2]int
	i, k := 0, 0
	for i < len(x.Labels) && k < len(y.Labels) {
		order := compareLabels(x.Labels[i], y.Labels[k])
		if order == 0 {
			twice = append(twice, [2]int{x.Args[i], y.Args[k]})
		}
		if order > 0 {
			all.add(y.Labels[k], y.Args[k])
		} else {
			all.add(x.Labels[i], x.Args[i])
		}
		if order <= 0 {
			i++
		}
		if order >= 0 {
			k++
		}
	}
	all.labels = slices.Concat(all.labels, x.Labels[i:], y.Labels[k:])
	all.types = slices.Concat(all.types, x.Args[i:], y.Args[k:])
	return all, twice
}

// cloneTexts is the same texts in new memory.
func cloneTexts(l []string) []string {
	l = slices.Clone(l)
	for i, s := range l {
		l[i] = strings.Clone(s)
	}
	return l
}
