// Package runes: letters and quotes.
package runes

import (
	"strings"

	"refectory/api"
)

// Valid tells whether a text is right UTF-8.
func Valid(s string) bool {
	for i, c := range s {
		// A range gives 0xFFFD for wrong bytes too: only the bytes tell which one it is.
		if c == 0xFFFD && !strings.HasPrefix(s[i:], "\uFFFD") {
			return false
		}
	}
	return true
}

// Name tells whether a name may be.
func Name(s string) bool {
	if len(s) < 1 || len(s) > api.MaxName {
		return false
	}
	for i, c := range s {
		if !isLetter(c) && (i == 0 || !isDigit(c)) {
			return false
		}
	}
	return true
}

func isLetter(c rune) bool {
	return 'a' <= c && c <= 'z' || 'A' <= c && c <= 'Z' || c == '_'
}

func isDigit(c rune) bool {
	return '0' <= c && c <= '9'
}
