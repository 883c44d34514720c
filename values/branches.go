package values

import (
	"slices"

	"kiln/api"
)

// few is up to how many keys are looked through one by one.
const few = 8

// Branches are the keys of a case.
type Branches struct {
	keys   []api.Key
	places map[api.Key]int // of more than a few: the place of the first of equal ones
}

// NewBranches are the branches of some keys.
func NewBranches(keys []api.Key) *Branches {
	b := &Branches{}
	for _, k := range keys {
		b.keys = append(b.keys, plain(k))
	}
	if len(keys) > few {
		b.places = map[api.Key]int{}
		for i, k := range slices.Backward(b.keys) {
			b.places[k] = i
		}
	}
	return b
}

// plain is a key without what its kind does not name.
func plain(k api.Key) api.Key {
	if k.Kind == api.KeyStr {
		return api.Key{Kind: k.Kind, Text: k.Text}
	}
	return api.Key{Kind: k.Kind, Int: k.Int}
}

// Of is the place of the first key that is there; the place behind all keys, if none is.
func (b *Branches) Of(v Value) int {
	k := keyOf(v)
	if b.places == nil {
		if i := slices.Index(b.keys, k); i >= 0 {
			return i
		}
	} else if i, ok := b.places[k]; ok {
		return i
	}
	return len(b.keys)
}

// keyOf is the key that asks for a value; the zero one, which is no key, if none does.
func keyOf(v Value) api.Key {
	switch x := v.(type) {
	case Int:
		return api.Key{Kind: api.KeyInt, Int: int64(x)}
	case *Con:
		return api.Key{Kind: api.KeyCon, Int: int64(x.Tag)}
	case Text:
		return api.Key{Kind: api.KeyStr, Text: string(x)}
	}
	return api.Key{}
}
