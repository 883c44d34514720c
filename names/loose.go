package names

import (
	"slices"

	"kiln/api"
	"kiln/types"
)

// Loose are the variables of a scheme's type that the scheme has not: of these something may still become.
func Loose(b *types.Book, s api.Scheme) []int {
	l := slices.DeleteFunc(b.Free(s.Type), func(v int) bool { return slices.Contains(s.Vars, v) })
	if len(l) == 0 || len(s.Vars) == 0 {
		return l
	}
	var own []int // as they are now: two variables may have become one
	for _, v := range s.Vars {
		own = append(own, b.Free(v)...)
	}
	return slices.DeleteFunc(l, func(v int) bool { return slices.Contains(own, v) })
}
