package tree

import (
	"maps"
	"math/rand"
	"slices"
	"strings"
	"testing"

	"kiln/api"
	"kiln/lex"
)

// grammar is the chapter's, as a text that the model reads: what is in quotes is reserved; NAME, LONG, DOTTED (a long name with a path), FREE (a name that is not infix), INFIX, MIDDLE (an infix name between patterns), EQUAL (an infix name, or '=', between expressions), LABEL, DIGIT, STAR (the name `*`), TYPE (a LONG that is no STAR), TYVAR, INT, REAL, STRING, CHAR, END are kinds of tokens. A choice with ?x ahead is taken if x holds; of the others the first one that has the next token is taken. @x does something.
const grammar = `
program = decs END
decs = @push decs1 @pop
decs1 = ( dec | ';' )*
dec = 'val' [ 'rec' ] bind ( 'and' bind )* | 'fun' fun1 ( 'and' fun1 )* | 'type' tybind ( 'and' tybind )*
 | ?copy 'datatype' NAME '=' 'datatype' LONG | 'datatype' datbind ( 'and' datbind )* | 'exception' exbind ( 'and' exbind )*
 | 'local' @push decs1 'in' @push decs1 'end' @merge | 'open' LONG+ | ( 'infix' | 'infixr' ) [ DIGIT ] NAME+ @turn | 'nonfix' NAME+ @turn
 | 'structure' strbind ( 'and' strbind )* | 'signature' NAME '=' sig ( 'and' NAME '=' sig )* | 'functor' fct ( 'and' fct )*
bind = pat '=' exp
fun1 = clause ( '|' clause )*
clause = ?between atpat INFIX atpat [ ':' ty ] '=' exp | plain atpat+ [ ':' ty ] '=' exp
tybind = tyvars NAME '=' ty
datbind = tyvars NAME '=' con ( '|' con )*
con = [ 'op' ] NAME [ 'of' ty ]
exbind = [ 'op' ] NAME [ 'of' ty | '=' [ 'op' ] LONG ]
strbind = NAME [ ( ':' | ':>' ) sig ] '=' str
fct = NAME '(' NAME ':' sig ')' [ ( ':' | ':>' ) sig ] '=' str
tyvars = [ TYVAR | '(' TYVAR ( ',' TYVAR )* ')' ]
str = str1 ( ( ':' | ':>' ) sig )*
str1 = 'struct' decs 'end' | ?apply NAME '(' argument ')' | LONG | 'let' decs 'in' str 'end'
argument = ?declares decs | str
sig = sig1 ( 'where' 'type' tyvars LONG '=' ty )*
sig1 = 'sig' spec* 'end' | NAME
spec = 'val' NAME ':' ty ( 'and' NAME ':' ty )* | 'type' tyvars NAME ( '=' ty ( 'and' tybind )* | ( 'and' tyvars NAME )* ) | 'eqtype' tyvars NAME ( 'and' tyvars NAME )*
 | 'datatype' datbind ( 'and' datbind )* | 'exception' NAME [ 'of' ty ] ( 'and' NAME [ 'of' ty ] )* | 'structure' NAME ':' sig ( 'and' NAME ':' sig )* | ';'
exp = or ( 'handle' match )*
or = and1 ( 'orelse' and1 )*
and1 = operand ( 'andalso' operand )*
operand = 'if' exp 'then' exp 'else' exp | 'while' exp 'do' exp | 'case' exp 'of' match | 'fn' match | 'raise' exp | infexp ( ':' ty )*
match = pat '=>' exp ( '|' pat '=>' exp )*
infexp = @begin app ( EQUAL app )* @end
app = atexp+
atexp = INT | REAL | STRING | CHAR | plain | DOTTED | '#' LABEL | '{' [ LABEL '=' exp ( ',' LABEL '=' exp )* ] '}'
 | '(' [ exp [ ( ',' exp )+ | ( ';' exp )+ ] ] ')' | '[' [ exp ( ',' exp )* ] ']' | 'let' decs 'in' exp ( ';' exp )* 'end'
pat = ?layered plain [ ':' ty ] [ 'as' pat ] ( ':' ty )* | infpat ( ':' ty )*
infpat = @begin apppat ( MIDDLE apppat )* @end
apppat = ( plain | DOTTED ) [ atpat ] | atpat
atpat = '_' | INT | STRING | CHAR | plain | DOTTED | '(' [ pat ( ',' pat )* ] ')' | '[' [ pat ( ',' pat )* ] ']' | '{' [ fields ] '}'
fields = '...' | field [ ',' fields ]
field = ?named NAME [ ':' ty ] [ 'as' pat ] | LABEL '=' pat
ty = ty1 [ '->' ty ]
ty1 = ty2 ( STAR ty2 )*
ty2 = atty TYPE*
atty = TYVAR | TYPE | '(' ty ( ( ',' ty )+ ')' TYPE | ')' ) | '{' [ LABEL ':' ty ( ',' LABEL ':' ty )* ] '}'
plain = FREE | 'op' ( NAME | '=' )
`

// rule is a piece of the grammar: a word of it, or pieces one behind the other (seq), to choose from (alt), any number of one (star), one or none (opt).
type rule struct {
	kind string
	word string
	kids []*rule
}

// readGrammar reads the text.
func readGrammar() map[string]*rule {
	all := map[string]*rule{}
	for _, line := range strings.Split(strings.TrimSpace(strings.ReplaceAll(grammar, "\n |", " |")), "\n") {
		words := strings.Fields(line)
		left := words[2:]
		all[words[0]] = readAlt(&left)
	}
	return all
}

func readAlt(left *[]string) *rule {
	alt := &rule{kind: "alt", kids: []*rule{{kind: "seq"}}}
	for len(*left) > 0 {
		w := (*left)[0]
		*left = (*left)[1:]
		seq := alt.kids[len(alt.kids)-1]
		switch {
		case w == "|":
			alt.kids = append(alt.kids, &rule{kind: "seq"})
		case w == "(":
			seq.kids = append(seq.kids, readAlt(left))
		case w == "[":
			seq.kids = append(seq.kids, &rule{kind: "opt", kids: []*rule{readAlt(left)}})
		case w == ")" || w == "]":
			return alt
		case w == ")*":
			return &rule{kind: "star", kids: []*rule{alt}}
		case w == ")+":
			return &rule{kind: "seq", kids: []*rule{alt, {kind: "star", kids: []*rule{alt}}}}
		default:
			seq.kids = append(seq.kids, readWord(w))
		}
	}
	return alt
}

func readWord(w string) *rule {
	if base := strings.TrimRight(w, "*+"); base != w && !strings.HasPrefix(w, "'") {
		one := &rule{kind: "word", word: base}
		star := &rule{kind: "star", kids: []*rule{one}}
		if strings.HasSuffix(w, "+") {
			return &rule{kind: "seq", kids: []*rule{one, star}}
		}
		return star
	}
	return &rule{kind: "word", word: w}
}

// modelFault is what ends the model's way through tokens.
type modelFault struct {
	at    int
	errno api.Errno
}

// reader goes through tokens by the grammar.
type reader struct {
	rules  map[string]*rule
	tokens []api.Token
	at     int
	open   int
	scopes []map[string]operator // of nonfix: level -1
	names  [][]operator          // of each phrase with infix names that is open: those that it has so far
}

// modelOf is the first fault of tokens: the token's number, and what it is.
func modelOf(rules map[string]*rule, tokens []api.Token) (f modelFault) {
	r := &reader{rules: rules, tokens: tokens}
	defer func() {
		if x := recover(); x != nil {
			f = x.(modelFault)
		}
	}()
	r.run(&rule{kind: "word", word: "program"})
	return modelFault{}
}

func (r *reader) fail(e api.Errno) { panic(modelFault{r.at, e}) }

// token is the one so many ahead.
func (r *reader) token(ahead int) api.Token {
	if r.at+ahead < len(r.tokens) {
		return r.tokens[r.at+ahead]
	}
	return api.Token{Kind: -1}
}

// fixity is what a name is, if it is infix.
func (r *reader) fixity(t api.Token) (operator, bool) {
	if t.Kind != api.TName && (t.Kind != api.TReserved || t.Text != "=") || len(t.Path) > 0 {
		return operator{}, false
	}
	for _, s := range slices.Backward(r.scopes) {
		if o, ok := s[t.Text]; ok {
			return o, o.level >= 0
		}
	}
	for _, l := range firstNames {
		if strings.Contains(" "+l.names+" ", " "+t.Text+" ") {
			return operator{t.Text, l.level, l.right}, true
		}
	}
	return operator{}, false
}

// is tells whether a token is of a kind.
func (r *reader) is(word string, ahead int) bool {
	t := r.token(ahead)
	name := t.Kind == api.TName && len(t.Path) == 0
	_, infix := r.fixity(t)
	switch word {
	case "NAME":
		return name
	case "LONG":
		return t.Kind == api.TName
	case "DOTTED":
		return t.Kind == api.TName && len(t.Path) > 0
	case "FREE":
		return name && !infix
	case "INFIX", "MIDDLE":
		return name && infix
	case "EQUAL":
		return infix
	case "STAR":
		return name && t.Text == "*"
	case "TYPE":
		return t.Kind == api.TName && !(name && t.Text == "*")
	case "LABEL":
		return name || t.Kind == api.TInt && t.Text >= "1" && t.Text < ":" && !strings.HasPrefix(t.Text, "0")
	case "DIGIT":
		return t.Kind == api.TInt && len(t.Text) == 1
	case "END":
		return t.Kind == -1
	}
	if word[0] == '\'' {
		return t.Kind == api.TReserved && t.Text == word[1:len(word)-1]
	}
	return t.Kind == tokenKinds[word]
}

// tokenKinds are the kinds that are all of one kind of token.
var tokenKinds = map[string]api.TokenKind{"TYVAR": api.TTyvar, "INT": api.TInt, "REAL": api.TReal, "STRING": api.TString, "CHAR": api.TChar}

// starts tells whether the next token can be the first of a piece, and empty whether the piece can be nothing.
func (r *reader) starts(p *rule) bool {
	switch p.kind {
	case "word":
		if sub := r.rules[p.word]; sub != nil {
			return r.starts(sub)
		}
		return p.word[0] != '@' && p.word[0] != '?' && r.is(p.word, 0)
	case "seq":
		for _, k := range p.kids {
			if r.starts(k) {
				return true
			}
			if !r.empty(k) {
				return false
			}
		}
		return false
	}
	return slices.ContainsFunc(p.kids, r.starts)
}

func (r *reader) empty(p *rule) bool {
	switch p.kind {
	case "word":
		if sub := r.rules[p.word]; sub != nil {
			return r.empty(sub)
		}
		return p.word[0] == '@' || p.word[0] == '?'
	case "seq":
		return !slices.ContainsFunc(p.kids, func(k *rule) bool { return !r.empty(k) })
	case "alt":
		return slices.ContainsFunc(p.kids, r.empty)
	}
	return true
}

// run takes what a piece is.
func (r *reader) run(p *rule) {
	switch p.kind {
	case "word":
		r.runWord(p.word)
	case "seq":
		for _, k := range p.kids {
			r.run(k)
		}
	case "alt":
		r.choose(p)
	case "star":
		for r.starts(p.kids[0]) {
			r.run(p.kids[0])
		}
	case "opt":
		if r.starts(p.kids[0]) {
			r.run(p.kids[0])
		}
	}
}

func (r *reader) choose(p *rule) {
	for _, k := range p.kids {
		if len(k.kids) > 0 && k.kids[0].kind == "word" && k.kids[0].word[0] == '?' {
			if r.holds(k.kids[0].word[1:]) {
				r.run(k)
				return
			}
			continue
		}
		if r.starts(k) || len(p.kids) == 1 {
			r.run(k)
			return
		}
	}
	if !r.empty(p) {
		r.fail(api.ErrSyntax)
	}
}

func (r *reader) runWord(w string) {
	sub := r.rules[w]
	switch {
	case w[0] == '?':
	case w[0] == '@':
		r.do(w[1:])
	case sub != nil && slices.Contains([]string{"exp", "pat", "ty", "dec", "str", "sig", "spec"}, w):
		if !r.starts(sub) {
			r.fail(api.ErrSyntax)
		}
		if r.open >= 1000 {
			r.fail(api.ErrDeep)
		}
		r.open++
		r.run(sub)
		r.open--
	case sub != nil:
		r.run(sub)
	case !r.is(w, 0):
		r.fail(api.ErrSyntax)
	default:
		if w == "EQUAL" || w == "MIDDLE" {
			r.meet()
		}
		r.at++
	}
}

// meet puts an infix name behind those of its phrase.
func (r *reader) meet() {
	o, _ := r.fixity(r.token(0))
	l := append(r.names[len(r.names)-1], o)
	if conflict(l) >= 0 {
		r.fail(api.ErrFixity)
	}
	r.names[len(r.names)-1] = l
}

// holds tells whether a choice is taken.
func (r *reader) holds(what string) bool {
	switch what {
	case "copy":
		return r.is("'datatype'", 0) && r.is("NAME", 1) && r.is("'='", 2) && r.is("'datatype'", 3)
	case "between":
		return !r.is("'op'", 0) && !r.is("FREE", 0) || r.is("FREE", 0) && r.is("INFIX", 1)
	case "apply":
		return r.is("NAME", 0) && r.is("'('", 1)
	case "declares":
		return r.starts(r.rules["dec"]) || r.is("')'", 0) || r.is("';'", 0)
	case "layered":
		behind := 1
		if r.is("'op'", 0) && (r.is("NAME", 1) || r.is("'='", 1)) {
			behind = 2
		} else if !r.is("FREE", 0) {
			return false
		}
		return r.is("'as'", behind) || r.is("':'", behind)
	}
	return r.is("NAME", 0) && !r.is("'='", 1) // named
}

// do does something.
func (r *reader) do(what string) {
	top := len(r.scopes) - 1
	switch what {
	case "push":
		r.scopes = append(r.scopes, map[string]operator{})
	case "pop":
		r.scopes = r.scopes[:top]
	case "merge":
		maps.Copy(r.scopes[top-2], r.scopes[top])
		r.scopes = r.scopes[:top-1]
	case "begin":
		r.names = append(r.names, nil)
	case "end":
		r.names = r.names[:len(r.names)-1]
	case "turn":
		at := r.at
		for r.tokens[at-1].Kind == api.TName {
			at--
		}
		level := 0
		word := r.tokens[at-1]
		if word.Kind == api.TInt {
			level = int(word.Text[0] - '0')
			word = r.tokens[at-2]
		}
		if word.Text == "nonfix" {
			level = -1
		}
		for _, t := range r.tokens[at:r.at] {
			r.scopes[top][t.Text] = operator{t.Text, level, word.Text == "infixr"}
		}
	}
}

// holdModel holds what Parse answers against the grammar: whether there is a fault, which one, and at which token.
func holdModel(t *testing.T, rules map[string]*rule, tokens []api.Token) api.Errno {
	t.Helper()
	f := modelOf(rules, tokens)
	l, root, line, column, e := Parse(tokens)
	want := place{}
	if f.errno != api.OK && len(tokens) > 0 {
		k := tokens[min(f.at, len(tokens)-1)]
		want = place{k.Line, k.Column}
	}
	if e == f.errno && want == (place{line, column}) && (e == api.OK) == (len(l) > 0) {
		if e == api.OK && (Check(l, root) != api.OK || root != len(l)-1 || len(Below(l, root)) != len(l)) {
			text, _ := lex.Join(tokens)
			t.Errorf("Parse(%s): no tree", text)
		}
		return e
	}
	text, _ := lex.Join(tokens)
	t.Errorf("Parse(%s): %d at %d, %d; want %d at %v", text, e, line, column, f.errno, want)
	return e
}

// placed is tokens, each at a place of its own.
func placed(l []api.Token) []api.Token {
	out := slices.Clone(l)
	for i := range out {
		out[i].Line, out[i].Column = i+1, 100+i
	}
	return out
}

// alphabet is the tokens of all kinds.
func alphabet(t testing.TB) []api.Token {
	return scan(t, `val rec and fun type datatype exception local in end open infix infixr nonfix structure signature functor sig struct let where eqtype
		if then else while do case of fn raise handle orelse andalso op as include with abstype ( ) [ ] { } , ; _ ... : :> | = => -> #
		x y C A.x A.+ + * :: o ++ before 'a 1 0 12 ~5 1.5 "s" #"c"`)
}

// changed is tokens with one left out, put in, put instead, doubled, or changed for its neighbour; or cut off.
func changed(r *rand.Rand, l, all []api.Token) []api.Token {
	out := slices.Clone(l)
	if len(out) == 0 {
		return all[r.Intn(len(all)):][:1]
	}
	i := r.Intn(len(out))
	switch r.Intn(6) {
	case 0:
		return slices.Delete(out, i, i+1)
	case 1:
		return slices.Insert(out, i, all[r.Intn(len(all))])
	case 2:
		out[i] = all[r.Intn(len(all))]
	case 3:
		return slices.Insert(out, i, out[r.Intn(len(out))])
	case 4:
		k := min(i+1, len(out)-1)
		out[i], out[k] = out[k], out[i]
	case 5:
		return out[:i]
	}
	return out
}

// P5.1: programs with a few changes are refused where the grammar refuses them.
func TestChanged(t *testing.T) {
	rules, all, r := readGrammar(), alphabet(t), rand.New(rand.NewSource(6))
	count := map[api.Errno]int{}
	for _, s := range samples() {
		tokens := placed(scan(t, s))
		count[holdModel(t, rules, tokens)]++
		for i := range tokens { // each beginning, each token left out, each another one instead
			count[holdModel(t, rules, tokens[:i])]++
			count[holdModel(t, rules, placed(slices.Delete(slices.Clone(tokens), i, i+1)))]++
			for _, k := range all {
				other := placed(tokens)
				other[i] = k
				count[holdModel(t, rules, placed(other))]++
			}
		}
		if t.Failed() {
			return
		}
	}
	for seed := range int64(6000) {
		tokens, _ := made(seed, 10+int(seed%60))
		for range 1 + r.Intn(3) {
			tokens = changed(r, tokens, all)
		}
		count[holdModel(t, rules, placed(tokens))]++
		if t.Failed() {
			return
		}
	}
	if count[api.OK] < 1000 || count[api.ErrSyntax] < 10000 {
		t.Errorf("too few: %v", count)
	}
}

// P5.1: all short lists of the tokens that matter together, behind beginnings of programs.
func TestShortLists(t *testing.T) {
	rules := readGrammar()
	for _, c := range []struct {
		ahead, tokens string
		n             int
	}{
		{"", "val x = 1 ; fun infix + end", 4},
		{"val", "x as : t op + = A.y ( )", 4},
		{"val v =", "x + = op : t ( ) andalso fn =>", 4},
		{"val v =", "fn x => | handle 1 orelse raise", 4},
		{"val v = {", "a = 1 , } 0 A.b :", 5},
		{"val {", "a = 1 , } ... as : t", 5},
		{"val v = (", ") ( x , ; y ]", 5},
		{"fun", "f x + = op A.y | ( )", 5},
		{"type t =", "t * -> ( ) , 'a A.u", 5},
		{"type", "( ) , 'a t = u and", 5},
		{"datatype", "t = datatype 'a A | of and", 5},
		{"exception", "E = op of t and A.F", 5},
		{"structure S", "= : :> F ( ) A.B val ;", 5},
		{"signature S = sig", "type t = and end 'a ; eqtype", 5},
		{"signature S = sig val", "x : t and end , -> *", 5},
		{"signature S = G", "where type t = 'a A.u and where", 5},
		{"infix 5 ++ infixr 5 ^^ val v = 1", "++ ^^ :: + = 2 * ( )", 5},
		{"infix 5 ++ infixr 5 ^^ val x", "++ ^^ :: + y * C", 5},
		{"infix", "5 + a val = 12 A.b nonfix", 4},
		{"functor F", "( X : G ) = A :>", 7},
	} {
		ahead, tokens := scan(t, c.ahead), scan(t, c.tokens)
		lists := [][]api.Token{ahead}
		for range c.n {
			var longer [][]api.Token
			for _, l := range lists {
				f := modelOf(rules, l)
				for _, k := range tokens {
					next := placed(append(slices.Clone(l), k))
					holdModel(t, rules, next)
					if g := modelOf(rules, next); f.errno == api.OK || g.at >= len(next)-1 || g.errno == api.OK { // what is behind a fault says nothing
						longer = append(longer, next)
					}
				}
				if t.Failed() {
					return
				}
			}
			lists = longer
		}
	}
}

// P5.1: random lists of all tokens.
func TestRandomLists(t *testing.T) {
	rules, all, r := readGrammar(), alphabet(t), rand.New(rand.NewSource(7))
	for range 5000 {
		var l []api.Token
		for range r.Intn(12) {
			k := all[r.Intn(len(all))]
			l = append(l, k)
			for range 30 { // a fault ends it: take another one, mostly
				if f := modelOf(rules, l); f.errno == api.OK || f.at >= len(l) || r.Intn(40) == 0 {
					break
				}
				l[len(l)-1] = all[r.Intn(len(all))]
			}
		}
		holdModel(t, rules, placed(l))
		if t.Failed() {
			return
		}
	}
}

// FuzzParse holds Parse against the grammar, and asks what follows from it.
func FuzzParse(f *testing.F) {
	for _, s := range samples() {
		f.Add(s)
	}
	rules := readGrammar()
	f.Fuzz(func(t *testing.T, s string) {
		tokens, _, _, e := lex.Scan(s)
		if e != api.OK || len(tokens) > 2000 {
			return
		}
		a, i, _, _, e := Parse(tokens)
		if e == api.ErrDeep || e == api.ErrMany {
			return
		}
		holdModel(t, rules, tokens)
		b, k, _, _, _ := Parse(placed(tokens))
		if e == api.OK && !Same(a, i, b, k) {
			t.Errorf("Parse(%q): another tree with other places", s)
		}
	})
}
