package lex

// kinds is what a byte is: a bit for each kind, since a byte can be of several.
type kinds uint16

const (
	blank    kinds = 1 << iota
	letter         // begins a name, or a reserved word
	digit          // begins a number
	hexDigit       // stands in a number behind 0x
	wordByte       // stands in a name behind a letter
	sign           // stands in a name of signs
	opening        // ( begins a comment, or is reserved
	alone          // is a reserved sign, whatever stands behind it
	point          // . is reserved with two more
	prime          // ' begins a type variable
	quote          // " begins a string
)

// kindsOf is 0, if no token begins with the byte.
func kindsOf(c byte) kinds {
	var k kinds
	switch c {
	case '\t', '\n', '\f', '\r', ' ':
		return blank
	case '0', '1', '2', '3', '4', '5', '6', '7', '8', '9':
		return digit | hexDigit | wordByte
	case 'A', 'B', 'C', 'D', 'E', 'F', 'a', 'b', 'c', 'd', 'e', 'f':
		k = hexDigit
		fallthrough
	case 'G', 'H', 'I', 'J', 'K', 'L', 'M', 'N', 'O', 'P', 'Q', 'R', 'S', 'T', 'U', 'V', 'W', 'X', 'Y', 'Z',
		'g', 'h', 'i', 'j', 'k', 'l', 'm', 'n', 'o', 'p', 'q', 'r', 's', 't', 'u', 'v', 'w', 'x', 'y', 'z':
		return k | letter | wordByte
	case '!', '%', '&', '$', '#', '+', '-', '/', ':', '<', '=', '>', '?', '@', '\\', '~', '`', '^', '|', '*':
		return sign
	case '(':
		return opening
	case '_':
		k = wordByte
		fallthrough
	case ')', '[', ']', '{', '}', ',', ';':
		return k | alone
	case '.':
		return point
	case '\'':
		return prime | wordByte
	case '"':
		return quote
	}
	return k
}

// begins tells whether there is a first byte, and it is of one of these kinds.
func (s text) begins(k kinds) bool { return s != "" && kindsOf(s[0])&k != 0 }

// run is how many bytes of these kinds it begins with.
func (s text) run(k kinds) int {
	n := 0
	for s[n:].begins(k) {
		n++
	}
	return n
}
