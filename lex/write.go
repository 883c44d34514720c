package lex

import (
	"slices"
	"strings"

	"kiln/api"
)

// Write is a token as it is written.
func Write(t api.Token) (string, api.Errno) {
	if tooLong(t) {
		return "", api.ErrArg
	}
	s := spell(t)
	// A token that some text has is read again from its own spelling; the spelling of what is none is not read as that.
	l, _, _, e := Scan(s)
	if e != api.OK || len(l) != 1 || !same(l[0], t) {
		return "", api.ErrArg
	}
	return s, api.OK
}

// tooLong tells whether the token's parts and its points are more than a text can hold: nobody need write them then.
func tooLong(t api.Token) bool {
	size := len(t.Text)
	for _, p := range t.Path {
		size += len(p) + 1
		if size > api.MaxText {
			return true
		}
	}
	return size > api.MaxText
}

// same tells whether both are one token, wherever they stand.
func same(a, b api.Token) bool {
	return a.Kind == b.Kind && a.Text == b.Text && slices.Equal(a.Path, b.Path)
}

// spell is a token as it would be written, if it is one.
func spell(t api.Token) string {
	var s []byte
	switch t.Kind {
	case api.TChar:
		s = append(s, '#')
		fallthrough
	case api.TString:
		return string(spellString(s, t.Text))
	}
	for _, p := range t.Path {
		s = append(s, p...)
		s = append(s, '.')
	}
	return string(append(s, t.Text...))
}

// spellString puts a string behind s that says these bytes.
func spellString(s []byte, said string) []byte {
	s = append(s, '"')
	for i := range len(said) {
		switch c := said[i]; {
		case c == '"' || c == '\\':
			s = append(s, '\\')
			fallthrough
		case c >= ' ' && c <= '~':
			s = append(s, c)
		default:
			s = append(s, '\\', '0'+c/100, '0'+c/10%10, '0'+c%10)
		}
	}
	return append(s, '"')
}

// Join is tokens as they are written.
func Join(l []api.Token) (string, api.Errno) {
	var all strings.Builder
	gap, long := "", false
	for _, t := range l {
		s, e := Write(t)
		if e != api.OK {
			return "", e
		}
		// What is too long is looked through to the end, since a wrong token further on is told instead.
		long = long || all.Len()+len(gap)+len(s) > api.MaxText
		if !long {
			all.WriteString(gap)
			all.WriteString(s)
		}
		gap = " "
	}
	if long {
		return "", api.ErrLong
	}
	return all.String(), api.OK
}
