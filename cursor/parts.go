package cursor

import (
	"slices"

	"refectory/api"
	"refectory/lex"
	"refectory/value"
)

// Sign goes behind that sign, which must be there.
func (c *Cursor) Sign(sign string) {
	if !c.TakeSign(sign) {
		c.Fail(api.ErrText)
	}
}

// Word goes behind that name, which must be there.
func (c *Cursor) Word(word string) {
	if !c.TakeWord(word) {
		c.Fail(api.ErrText)
	}
}

// Name is the name that must be there.
func (c *Cursor) Name() string { return c.must(lex.Name) }

// Int is the number that must be there, as it is written.
func (c *Cursor) Int() string { return c.must(lex.Int) }

// must is what a token of that kind says; empty, if there is another one.
func (c *Cursor) must(kind int) string {
	token := c.token()
	if !c.pass(token.Kind == kind) {
		c.Fail(api.ErrText)
		return ""
	}
	return token.S
}

// NameOrNone is empty where no name stands.
func (c *Cursor) NameOrNone() string {
	name := c.NextName()
	c.pass(name != "")
	return name
}

// Type is the type that must be there: where it is none, its first token is wrong.
func (c *Cursor) Type() api.Type {
	t, next, ok := value.Type(c.tokens, c.at)
	if !ok {
		c.Fail(api.ErrText)
		return api.Type{}
	}
	c.at = next
	return t
}

// Value is the value that must be there.
func (c *Cursor) Value() api.Value {
	return c.valueAmong(c.tokens[c.at:])
}

// Default is the value without variables that stands behind =; zero, where that sign
// does not stand. It reads as if the tokens ended ahead of the next variable: a value
// that is whole by then has none, and one that isn't is wrong just there.
func (c *Cursor) Default() api.Value {
	if !c.TakeSign("=") {
		return api.Value{}
	}
	rest := c.tokens[c.at:]
	ahead := slices.IndexFunc(rest, beginsVariable)
	if ahead < 0 {
		ahead = len(rest)
	}
	return c.valueAmong(rest[:ahead])
}

func beginsVariable(token lex.Token) bool {
	return isSign(token, "$")
}

// valueAmong takes tokens from the next one on, not all of them perhaps.
func (c *Cursor) valueAmong(tokens []lex.Token) api.Value {
	v, size, e := value.Value(tokens, 0)
	c.at += size
	if e != api.OK {
		c.Fail(e)
	}
	return v
}

// Several is one or more parts between two signs; part reads one of them.
func Several[T any](c *Cursor, begin string, part func() T, end string) []T {
	c.Sign(begin)
	var parts []T
	for c.errno == api.OK {
		parts = append(parts, part())
		if c.TakeSign(end) {
			break
		}
	}
	return parts
}

// SeveralOrNone has no parts where the first sign does not stand.
func SeveralOrNone[T any](c *Cursor, begin string, part func() T, end string) []T {
	if !c.IsSign(begin) {
		return nil
	}
	return Several(c, begin, part, end)
}
