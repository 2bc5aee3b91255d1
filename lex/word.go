package lex

import (
	"strings"

	"refectory/jval"
	"refectory/runes"
)

const (
	letters = "abcdefghijklmnopqrstuvwxyzABCDEFGHIJKLMNOPQRSTUVWXYZ_"
	digits  = "0123456789"
	signs   = "!$&():=@[]{|}"
	dots    = "..."
)

// word is the token that a text begins with, and how many bytes it has there; 0: there is none.
func word(rest string) (Token, int) {
	switch c := rest[0]; {
	case isOneOf(c, letters):
		return name(rest)
	case c == '-' || isOneOf(c, digits):
		return number(rest)
	case strings.HasPrefix(rest, fence):
		return block(rest)
	case c == '"':
		return quoted(rest)
	}
	return sign(rest)
}

func isOneOf(c byte, of string) bool {
	return strings.IndexByte(of, c) >= 0
}

// longest is the front of a text that has these bytes alone.
func longest(rest, of string) string {
	behind := strings.TrimLeft(rest, of)
	return strings.Clone(rest[:len(rest)-len(behind)])
}

// name takes a longer one for none: it is not cut into two.
func name(rest string) (Token, int) {
	s := longest(rest, letters+digits)
	if !runes.Name(s) {
		return Token{}, 0
	}
	return Token{Kind: Name, S: s}, len(s)
}

// number takes more signs than a number may have, so that what stands right behind one makes it none.
func number(rest string) (Token, int) {
	s := longest(rest, letters+digits+".+-")
	whole, ok := jval.Number(s)
	switch {
	case !ok:
		return Token{}, 0
	case whole:
		return Token{Kind: Int, S: s}, len(s)
	}
	return Token{Kind: Dec, S: s}, len(s)
}

func sign(rest string) (Token, int) {
	switch {
	case strings.HasPrefix(rest, dots):
		return Token{Kind: Sign, S: dots}, len(dots)
	case isOneOf(rest[0], signs):
		return Token{Kind: Sign, S: strings.Clone(rest[:1])}, 1
	}
	return Token{}, 0
}
