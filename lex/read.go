package lex

import (
	"strings"

	"kiln/api"
)

// text is what is left of a program's text. Its readers tell the token with which it begins, how many bytes that one has, and its fault, if it has one.
type text string

// between is the kind of what stands between tokens, which says nothing: blanks and comments.
const between api.TokenKind = 0

// reader is what reads a token that begins with a byte of some kinds.
type reader struct {
	begin kinds
	read  func(text) (api.Token, int, api.Errno)
}

// readers are all of them: no byte is of the kinds of two.
func readers() []reader {
	return []reader{
		{blank, text.blanks},
		{letter, text.word},
		{digit, text.number},
		{sign, text.signs},
		{opening, text.parenthesis},
		{alone, text.single},
		{point, text.points},
		{prime, text.variable},
		{quote, text.constant},
	}
}

// read takes what it begins with, which is not empty, by its reader.
func (s text) read(table []reader) (api.Token, int, api.Errno) {
	for _, r := range table {
		if s.begins(r.begin) {
			return r.read(s)
		}
	}
	return api.Token{}, 0, api.ErrByte
}

// cut is a token of the first bytes.
func (s text) cut(kind api.TokenKind, size int) (api.Token, int, api.Errno) {
	return api.Token{Kind: kind, Text: strings.Clone(string(s[:size]))}, size, api.OK
}

// reserved tells whether the first bytes are a reserved word or sign.
func (s text) reserved(size int) bool { return Reserved(string(s[:size])) }

func (s text) blanks() (api.Token, int, api.Errno) {
	return api.Token{Kind: between}, s.run(blank), api.OK
}

func (s text) parenthesis() (api.Token, int, api.Errno) {
	if !strings.HasPrefix(string(s), "(*") {
		return s.single()
	}
	size := s.comment()
	if size == 0 {
		return api.Token{}, 0, api.ErrComment
	}
	return api.Token{Kind: between}, size, api.OK
}

// comment is how many bytes the comment has with which it begins; 0, if that does not end.
func (s text) comment() int {
	open := 0
	for at := 0; at+1 < len(s); at++ {
		switch s[at : at+2] {
		case "(*":
			open++
		case "*)":
			open--
		default:
			continue
		}
		at++ // both bytes are used up: in `(*)` the star ends nothing
		if open == 0 {
			return at + 1
		}
	}
	return 0
}

func (s text) single() (api.Token, int, api.Errno) { return s.cut(api.TReserved, 1) }

func (s text) points() (api.Token, int, api.Errno) {
	if !strings.HasPrefix(string(s), "...") {
		return api.Token{}, 0, api.ErrByte
	}
	return s.cut(api.TReserved, 3)
}

func (s text) variable() (api.Token, int, api.Errno) { return s.cut(api.TTyvar, s.run(wordByte)) }

// word reads a reserved word, a name that begins with a letter, or a long name.
func (s text) word() (api.Token, int, api.Errno) {
	size := s.name()
	if s.reserved(size) {
		return s.cut(api.TReserved, size)
	}
	var path []string
	last := 0 // where the name's last part begins
	for s[last:].begins(letter) && s[size:].begins(point) {
		path = append(path, strings.Clone(string(s[last:size])))
		last = size + 1
		part := s[last:].name()
		if part == 0 || s[last:].reserved(part) {
			return api.Token{}, 0, api.ErrName
		}
		size = last + part
	}
	t, _, e := s[last:].cut(api.TName, size-last)
	t.Path = path
	return t, size, e
}

// name is how many bytes the name, or reserved word or sign, has with which it begins; 0, if there is none.
func (s text) name() int {
	if s.begins(letter) {
		return s.run(wordByte)
	}
	return s.run(sign)
}

// signs reads a name of signs or a reserved sign, and what else begins with a sign: a number below 0, a character.
func (s text) signs() (api.Token, int, api.Errno) {
	size := s.run(sign)
	switch {
	case s[0] == '~' && s[1:].begins(digit):
		return s.number()
	case s[0] == '#' && s[1:].begins(quote):
		return s.character()
	case s.reserved(size):
		return s.cut(api.TReserved, size)
	}
	return s.cut(api.TName, size)
}
