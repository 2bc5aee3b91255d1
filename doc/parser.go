package doc

import (
	"slices"

	"refectory/api"
	"refectory/lex"
	"refectory/value"
)

// parser goes through tokens once, and keeps the first error that it meets.
type parser struct {
	tokens []lex.Token
	at     int
	size   int // of the text in bytes
	sets   int // how many are open
	errno  api.Errno
	wrong  int // the byte of the error
}

// fail says that the next token is wrong. All that still reads then finds the
// end, and what it says of that does not count.
func (p *parser) fail(errno api.Errno) {
	if p.errno != api.OK {
		return
	}
	p.errno = errno
	p.wrong = p.size
	if p.at < len(p.tokens) {
		p.wrong = p.tokens[p.at].At
	}
	p.tokens = p.tokens[:p.at]
}

// token is one of no kind at the end.
func (p *parser) token() lex.Token {
	if p.at == len(p.tokens) {
		return lex.Token{}
	}
	return p.tokens[p.at]
}

func (p *parser) isSign(sign string) bool {
	return isSign(p.token(), sign)
}

func isSign(token lex.Token, sign string) bool {
	return token.Kind == lex.Sign && token.S == sign
}

func (p *parser) isName() bool {
	return p.token().Kind == lex.Name
}

func (p *parser) isWord(word string) bool {
	return p.isName() && p.token().S == word
}

// takeSign goes behind the next token, if it is that sign.
func (p *parser) takeSign(sign string) bool {
	is := p.isSign(sign)
	if is {
		p.at++
	}
	return is
}

// takeWord goes behind the next token, if it is that name.
func (p *parser) takeWord(word string) bool {
	is := p.isWord(word)
	if is {
		p.at++
	}
	return is
}

func (p *parser) sign(sign string) {
	if !p.takeSign(sign) {
		p.fail(api.ErrText)
	}
}

func (p *parser) word(word string) {
	if !p.takeWord(word) {
		p.fail(api.ErrText)
	}
}

func (p *parser) name() string {
	token := p.token()
	if token.Kind != lex.Name {
		p.fail(api.ErrText)
		return ""
	}
	p.at++
	return token.S
}

// nameOrNone is empty where no name stands.
func (p *parser) nameOrNone() string {
	if !p.isName() {
		return ""
	}
	return p.name()
}

// typeOf stays at the type's first token where it is none.
func (p *parser) typeOf() api.Type {
	t, next, ok := value.Type(p.tokens, p.at)
	if !ok {
		p.fail(api.ErrText)
		return api.Type{}
	}
	p.at = next
	return t
}

func (p *parser) value() api.Value {
	return p.valueAmong(p.tokens)
}

// constant reads as if the tokens ended ahead of the next variable: a value that
// is whole by then has none, and one that isn't is wrong just there.
func (p *parser) constant() api.Value {
	rest := p.tokens[p.at:]
	ahead := slices.IndexFunc(rest, beginsVariable)
	if ahead < 0 {
		ahead = len(rest)
	}
	return p.valueAmong(p.tokens[:p.at+ahead])
}

func beginsVariable(token lex.Token) bool {
	return isSign(token, "$")
}

func (p *parser) valueAmong(tokens []lex.Token) api.Value {
	v, next, errno := value.Value(tokens, p.at)
	p.at = next
	if errno != api.OK {
		p.fail(errno)
	}
	return v
}

// several is one or more parts between two signs; part reads one of them.
func several[T any](p *parser, begin string, part func() T, end string) []T {
	p.sign(begin)
	var parts []T
	for p.errno == api.OK {
		parts = append(parts, part())
		if p.takeSign(end) {
			break
		}
	}
	return parts
}

// severalOrNone has no parts where the first sign does not stand.
func severalOrNone[T any](p *parser, begin string, part func() T, end string) []T {
	if !p.isSign(begin) {
		return nil
	}
	return several(p, begin, part, end)
}
