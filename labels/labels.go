// Package labels is what layers 7, 8 and 12 have in common about labels: the order in which they go.
package labels

import (
	"cmp"
	"strings"
)

// Compare is below 0, 0 or above 0, as the first label stands ahead of the second one, is it, or stands behind it.
func Compare(a, b string) int {
	switch one, other := isNumber(a), isNumber(b); {
	case one && other: // of numbers without a zero ahead the longer one is the greater one
		return cmp.Or(cmp.Compare(len(a), len(b)), strings.Compare(a, b))
	case one:
		return -1
	case other:
		return 1
	}
	return strings.Compare(a, b)
}

// isNumber tells whether a label is one of digits alone, without a zero ahead.
func isNumber(label string) bool {
	if label == "" || label[0] == '0' {
		return false
	}
	for i := range len(label) {
		if label[i] < '0' || label[i] > '9' {
			return false
		}
	}
	return true
}
