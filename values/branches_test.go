package values

import (
	"fmt"
	"math"
	"testing"

	"kiln/api"
)

// asked is the place of the first key that is there, by the words.
func asked(keys []api.Key, v Value) int {
	for i, k := range keys {
		switch x := v.(type) {
		case Int:
			if k.Kind == api.KeyInt && k.Int == int64(x) {
				return i
			}
		case *Con:
			if k.Kind == api.KeyCon && k.Int == int64(x.Tag) {
				return i
			}
		case Text:
			if k.Kind == api.KeyStr && k.Text == string(x) {
				return i
			}
		}
	}
	return len(keys)
}

// P11.3: the first key that is there, of few and of many; a key's kind says which of its fields play a part.
func TestBranches(t *testing.T) {
	some := []api.Key{
		{Kind: api.KeyInt, Int: 3, Text: "x"}, {Kind: api.KeyCon, Int: 3, Text: "y"}, {Kind: api.KeyStr, Text: "3", Int: 3}, {Kind: api.KeyInt, Int: 3, Text: "z"},
		{Kind: api.KeyStr, Int: 9}, {Kind: api.KeyInt, Int: -1}, {Kind: api.KeyCon, Int: -1}, {Kind: api.KeyInt, Int: math.MaxInt64},
	}
	all := []Value{Real(3), Tuple{Int(3)}, cellOf(Int(3)), &struct{ n int }{3}, Text(""), Text("3"), Text("4"), Int(-1), &Con{math.MaxInt, Int(3)}, Int(api.MaxFix)}
	for n := range 30 {
		all = append(all, Int(n), &Con{n, Int(0)}, Text(fmt.Sprint("k", n)))
	}
	keys := append([]api.Key{}, some...)
	for n := range 25 {
		keys = append(keys, api.Key{Kind: api.KeyInt, Int: int64(n % 9)}, api.Key{Kind: api.KeyCon, Int: int64(n % 13)}, api.Key{Kind: api.KeyStr, Text: fmt.Sprint("k", n%17)})
	}
	for size := range len(keys) + 1 {
		b := NewBranches(keys[:size])
		for _, v := range all {
			if got, want := b.Of(v), asked(keys[:size], v); got != want {
				t.Errorf("of %d: %v: %d; want %d", size, v, got, want)
			}
		}
	}
}
