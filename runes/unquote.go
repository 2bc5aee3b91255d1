package runes

import "strings"

// Unquote is the text of what JSON writes.
func Unquote(s string) (string, bool) {
	if len(s) < 2 || s[0] != '"' || s[len(s)-1] != '"' || !Valid(s) {
		return "", false
	}
	var r reader
	for _, c := range s[1 : len(s)-1] {
		if !r.take(c) {
			return "", false
		}
	}
	if !r.whole() {
		return "", false
	}
	return r.out.String(), true
}

// reader takes what stands between the quotes, a code point at a time.
type reader struct {
	out     strings.Builder
	escaped bool // right behind a \
	digits  int  // that are still to come of a \u
	code    rune // what the digits have made so far
	first   rune // a first half that waits for its second one; 0: none
}

// whole tells whether nothing is left in the middle.
func (r *reader) whole() bool {
	return !r.escaped && r.digits == 0 && r.first == 0
}

func (r *reader) take(c rune) bool {
	switch {
	case r.digits > 0:
		return r.takeDigit(c)
	case r.escaped:
		return r.takeLetter(c)
	case c == '\\':
		r.escaped = true
		return true
	case c < 32 || c == '"':
		return false
	}
	return r.put(c)
}

// takeLetter takes what stands right behind a \.
func (r *reader) takeLetter(c rune) bool {
	r.escaped = false
	if c == 'u' {
		r.digits, r.code = 4, 0
		return true
	}
	p := pointOf(c)
	return p != 0 && r.put(p)
}

func (r *reader) takeDigit(c rune) bool {
	d := digitOf(c)
	if d < 0 {
		return false
	}
	r.code = r.code*16 + d
	r.digits--
	return r.digits > 0 || r.takeCode()
}

// takeCode takes what the four digits of a \u have made.
func (r *reader) takeCode() bool {
	switch {
	case isSecondHalf(r.code):
		return r.join()
	case isFirstHalf(r.code):
		if r.first != 0 {
			return false
		}
		r.first = r.code
		return true
	}
	return r.put(r.code)
}

// join makes one code point of the first half that waits and the second one.
func (r *reader) join() bool {
	if r.first == 0 {
		return false
	}
	c := 0x10000 + (r.first-0xD800)*0x400 + (r.code - 0xDC00)
	r.first = 0
	return r.put(c)
}

// put refuses behind a first half: it would be left by itself.
func (r *reader) put(c rune) bool {
	if r.first != 0 {
		return false
	}
	r.out.WriteRune(c)
	return true
}

func isFirstHalf(c rune) bool {
	return 0xD800 <= c && c <= 0xDBFF
}

func isSecondHalf(c rune) bool {
	return 0xDC00 <= c && c <= 0xDFFF
}

// pointOf is the code point that a letter behind a \ stands for; 0: none.
func pointOf(letter rune) rune {
	switch letter {
	case '"', '\\', '/':
		return letter
	case 'b':
		return 8
	case 't':
		return 9
	case 'n':
		return 10
	case 'f':
		return 12
	case 'r':
		return 13
	}
	return 0
}

// digitOf is what a digit of sixteen is worth; -1: it is none.
func digitOf(c rune) rune {
	switch {
	case '0' <= c && c <= '9':
		return c - '0'
	case 'a' <= c && c <= 'f':
		return c - 'a' + 10
	case 'A' <= c && c <= 'F':
		return c - 'A' + 10
	}
	return -1
}
