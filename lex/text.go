package lex

import (
	"strings"

	"refectory/runes"
)

const (
	fence        = `"""`
	escapedFence = `\"""`
)

// quoted only looks for the end: what may stand between the quotes is Unquote's to tell.
func quoted(rest string) (Token, int) {
	size := quotedSize(rest)
	s, ok := runes.Unquote(rest[:size])
	if !ok {
		return Token{}, 0
	}
	return Token{Kind: Str, S: s}, size
}

// quotedSize is 0 where the line ends ahead of the second quote.
func quotedSize(rest string) int {
	for i := 1; i < len(rest); i++ {
		switch rest[i] {
		case '"':
			return i + 1
		case '\\':
			i++
		case 10, 13:
			return 0
		}
	}
	return 0
}

func block(rest string) (Token, int) {
	raw, size := cutBlock(rest)
	if size == 0 || !isRaw(raw) {
		return Token{}, 0
	}
	return Token{Kind: Str, S: runes.Block(raw)}, size
}

// cutBlock is what stands between two fences, and how many bytes it has with them; 0: the second one is missing.
func cutBlock(rest string) (string, int) {
	var raw strings.Builder
	i := len(fence)
	for i < len(rest) {
		switch {
		case strings.HasPrefix(rest[i:], fence):
			return raw.String(), i + len(fence)
		case strings.HasPrefix(rest[i:], escapedFence):
			raw.WriteString(fence)
			i += len(escapedFence)
		default:
			raw.WriteByte(rest[i])
			i++
		}
	}
	return "", 0
}

// isRaw tells whether a block text may have these bytes.
func isRaw(s string) bool {
	for _, c := range s {
		if c < 32 && c != 9 && c != 10 && c != 13 {
			return false
		}
	}
	return runes.Valid(s)
}
