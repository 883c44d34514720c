package tree

import "kiln/api"

// phrases are kinds of phrases: a bit for each, since a token can begin several.
type phrases uint8

const (
	aDec phrases = 1 << iota
	aSpec
	aStr
	aSig
	aTy
	anAtpat
	anAtexp
	anOperand // what is an expression, but no atexp

	aPat  = anAtpat
	anExp = anAtexp | anOperand
)

// begins tells whether the next token begins a phrase of this kind.
func (p *parser) begins(k phrases) bool { return p.begun(p.look(0))&k != 0 }

// begun are the kinds of phrases that begin with the token.
func (p *parser) begun(t api.Token) phrases {
	var k phrases
	switch t.Kind {
	case api.TReserved:
		return begunByWord(t.Text)
	case api.TName:
		return p.begunByName(t)
	case api.TTyvar:
		return aTy
	case api.TInt, api.TString, api.TChar:
		k = anAtpat
		fallthrough
	case api.TReal:
		return k | anAtexp
	}
	return k
}

func begunByWord(s string) phrases {
	var k phrases
	switch s {
	case "val", "type", "datatype", "exception", "structure":
		k = aSpec
		fallthrough
	case "fun", "local", "open", "infix", "infixr", "nonfix", "signature", "functor":
		return k | aDec
	case "eqtype", ";":
		return aSpec
	case "sig":
		return aSig
	case "if", "while", "case", "fn", "raise":
		return anOperand
	case "(", "{":
		k = aTy
		fallthrough
	case "[", "op":
		k |= anAtexp
		fallthrough
	case "_":
		return k | anAtpat
	case "let":
		k = anAtexp
		fallthrough
	case "struct":
		return k | aStr
	case "#":
		return anAtexp
	}
	return k
}

func (p *parser) begunByName(t api.Token) phrases {
	k := aStr
	if isName(t) {
		k |= aSig
	}
	if !isStar(t) {
		k |= aTy
	}
	if !p.isInfix(t) {
		k |= anAtexp | anAtpat
	}
	return k
}

// isName tells whether the token is a name, and no long one.
func isName(t api.Token) bool { return t.Kind == api.TName && len(t.Path) == 0 }

// isStar tells whether the token is the name that stands between the types of a tuple.
func isStar(t api.Token) bool { return isName(t) && t.Text == "*" }

// isInfix tells whether the token is an infix name. (`=` is none here: it is one in expressions alone.)
func (p *parser) isInfix(t api.Token) bool { return isName(t) && p.scope.find(t.Text).infix }
