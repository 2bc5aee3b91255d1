package runes_test

import (
	"strings"
	"testing"
	"unicode/utf8"

	"refectory/api"
	"refectory/runes"
)

// edgeBytes are those at which the rules of UTF-8 turn.
var edgeBytes = []byte{0x00, 0x41, 0x7F, 0x80, 0x8F, 0x90, 0x9F, 0xA0, 0xBD, 0xBF, 0xC0, 0xC1, 0xC2, 0xDF, 0xE0, 0xE1, 0xEC, 0xED, 0xEE, 0xEF, 0xF0, 0xF1, 0xF3, 0xF4, 0xF5, 0xFF}

// eachText calls f with every text of at most n of the parts.
func eachText(parts []string, n int, f func(string)) {
	var grow func(string, int)
	grow = func(s string, left int) {
		f(s)
		if left == 0 {
			return
		}
		for _, p := range parts {
			grow(s+p, left-1)
		}
	}
	grow("", n)
}

// eachPoint calls f with every code point that UTF-8 has.
func eachPoint(f func(rune)) {
	for c := rune(0); c <= 0x10FFFF; c++ {
		if c < 0xD800 || c > 0xDFFF {
			f(c)
		}
	}
}

// P1.1, Valid.
func TestValid(t *testing.T) {
	for s, want := range map[string]bool{
		"":                                   true,
		"plain":                              true,
		"\x00\x1f\x7f":                       true,
		"\u0080\u07ff\u0800\uffff\U00010000": true,
		"\U0010ffff":                         true,
		"\ufffd":                             true,
		"a\ufffd\ufffdb":                     true,
		"\xed\x9f\xbf\xee\x80\x80":           true,
		"\xed\xa0\x80":                       false, // a first half
		"\xed\xbf\xbf":                       false, // a second half
		"\xed\xa0\xbd\xed\xb8\x80":           false, // both halves
		"\xc0\x80":                           false, // longer than it must be
		"\xc1\xbf":                           false,
		"\xe0\x9f\xbf":                       false,
		"\xf0\x8f\xbf\xbf":                   false,
		"\xf4\x90\x80\x80":                   false, // above the greatest
		"\xf5\x80\x80\x80":                   false,
		"\x80":                               false,
		"a\xbf":                              false,
		"\xc3":                               false,
		"\xe2\x82":                           false,
		"\xf0\x9f\x98":                       false,
		"\xef\xbf":                           false, // a 0xFFFD that is cut
		"\ufffd\xef\xbf":                     false,
		"\xff\ufffd":                         false,
		"\ufffd\xff":                         false,
	} {
		if got := runes.Valid(s); got != want {
			t.Errorf("Valid(%q) is %v", s, got)
		}
	}
}

func TestValidOfEdgeBytes(t *testing.T) {
	var parts []string
	for _, b := range edgeBytes {
		parts = append(parts, string([]byte{b}))
	}
	eachText(parts, 4, func(s string) {
		if got, want := runes.Valid(s), utf8.ValidString(s); got != want {
			t.Errorf("Valid(%q) is %v", s, got)
		}
	})
}

func TestValidOfEachPoint(t *testing.T) {
	eachPoint(func(c rune) {
		if !runes.Valid(string(c)) {
			t.Errorf("%U is not Valid", c)
		}
	})
}

// P1.1, Name.
func TestName(t *testing.T) {
	longest := "_" + strings.Repeat("z", api.MaxName-1)
	for s, want := range map[string]bool{
		"a": true, "z": true, "A": true, "Z": true, "_": true,
		"__typename": true, "a0": true, "a9": true, "_0": true, "aZ_9": true,
		longest:                                 true,
		longest + "z":                           false,
		strings.Repeat("\u00e9", api.MaxName/2): false,
		"":                                      false,
		"0":                                     false, "9": false, "9a": false,
		" a": false, "a ": false, "a\n": false, "a.b": false, "$a": false, "a\x00": false,
		"\u00e9": false, "a\u00e9": false, "a\u0661": false, "\uff21": false,
		"\xff": false, "a\xff": false, "a\ufffd": false,
	} {
		if got := runes.Name(s); got != want {
			t.Errorf("Name(%q) is %v", s, got)
		}
	}
}

func TestNameOfEachByte(t *testing.T) {
	const letters = "abcdefghijklmnopqrstuvwxyzABCDEFGHIJKLMNOPQRSTUVWXYZ_"
	for b := range 256 {
		s := string([]byte{byte(b)})
		if got, want := runes.Name(s), strings.Contains(letters, s); got != want {
			t.Errorf("Name(%q) is %v", s, got)
		}
		if got, want := runes.Name("a"+s), strings.Contains(letters+"0123456789", s); got != want {
			t.Errorf("Name(%q) is %v", "a"+s, got)
		}
	}
}
