package labels

import (
	"cmp"
	"slices"
	"strings"
	"testing"
)

// Labels of digits alone go by their numbers, ahead of all others, which go byte by byte.
func TestCompare(t *testing.T) {
	rising := []string{"1", "2", "9", "10", "11", "99", "100", "9223372036854775807", "9223372036854775808", strings.Repeat("9", 40),
		"", "'", "0", "00", "01", "010", "1a", "A", "a", "a1", "a10", "a2", "aa", "b", "\xff"}
	for i, a := range rising {
		for k, b := range rising {
			if got := Compare(a, b); cmp.Compare(got, 0) != cmp.Compare(i, k) {
				t.Errorf("Compare(%q, %q) = %d", a, b, got)
			}
		}
	}
	l := slices.Clone(rising)
	slices.Reverse(l)
	slices.SortFunc(l, Compare)
	if !slices.Equal(l, rising) {
		t.Errorf("sorted: %q", l)
	}
}
