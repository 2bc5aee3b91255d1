// Package cursor: a way through the tokens of a text, for the layers that read documents and schemas.
package cursor

import (
	"refectory/api"
	"refectory/lex"
)

// Cursor goes through tokens once, and keeps the first error that it meets.
type Cursor struct {
	tokens []lex.Token
	at     int
	size   int // of the text in bytes
	errno  api.Errno
	wrong  int // the byte of the error
}

// New stands ahead of a text's first token; nil, and lex's place and error, if it has no tokens.
func New(s string) (c *Cursor, at int, e api.Errno) {
	tokens, at, e := lex.All(s)
	if e != api.OK {
		return nil, at, e
	}
	return &Cursor{tokens: tokens, size: len(s)}, 0, api.OK
}

// Left is how many tokens there still are; behind an error none.
func (c *Cursor) Left() int { return len(c.tokens) - c.at }

// Wrong is the byte of the first error, and that error; 0 and OK, if there was none.
func (c *Cursor) Wrong() (at int, e api.Errno) { return c.wrong, c.errno }

// Fail says that the next token is wrong. All that still reads then finds the
// end, and what it says of that does not count.
func (c *Cursor) Fail(e api.Errno) {
	if c.errno != api.OK {
		return
	}
	c.errno = e
	c.wrong = c.size
	if c.Left() > 0 {
		c.wrong = c.tokens[c.at].At
	}
	c.tokens = c.tokens[:c.at]
}

// token is one of no kind at the end.
func (c *Cursor) token() lex.Token {
	if c.Left() == 0 {
		return lex.Token{}
	}
	return c.tokens[c.at]
}

// IsSign tells whether the next token is that sign.
func (c *Cursor) IsSign(sign string) bool { return isSign(c.token(), sign) }

func isSign(token lex.Token, sign string) bool {
	return token.Kind == lex.Sign && token.S == sign
}

// NextName is the name that the next token is; empty, if it is none.
func (c *Cursor) NextName() string {
	if token := c.token(); token.Kind == lex.Name {
		return token.S
	}
	return ""
}

// pass goes behind the next token, if it is the one that is looked for.
func (c *Cursor) pass(is bool) bool {
	if is {
		c.at++
	}
	return is
}

// TakeSign goes behind the next token, if it is that sign.
func (c *Cursor) TakeSign(sign string) bool { return c.pass(c.IsSign(sign)) }

// TakeWord goes behind the next token, if it is that name.
func (c *Cursor) TakeWord(word string) bool { return c.pass(c.NextName() == word) }

// TakeText goes behind the next token, if it is a text.
func (c *Cursor) TakeText() bool { return c.pass(c.token().Kind == lex.Str) }
