package runes

import "strings"

const smallDigits = "0123456789abcdef"

// Quote is a text as JSON writes it.
func Quote(s string) string {
	if !Valid(s) {
		return ""
	}
	var out strings.Builder
	out.WriteByte('"')
	for _, c := range s {
		writeQuoted(&out, c)
	}
	out.WriteByte('"')
	return out.String()
}

func writeQuoted(out *strings.Builder, c rune) {
	letter := letterOf(c)
	switch {
	case letter != 0:
		out.WriteByte('\\')
		out.WriteRune(letter)
	case c < 32 || c == 127:
		out.WriteString(`\u00`)
		out.WriteByte(smallDigits[c/16])
		out.WriteByte(smallDigits[c%16])
	default:
		out.WriteRune(c)
	}
}

// letterOf is the letter that stands behind a \ for a code point; 0: there is none.
func letterOf(c rune) rune {
	switch c {
	case '"', '\\':
		return c
	case 8:
		return 'b'
	case 9:
		return 't'
	case 10:
		return 'n'
	case 12:
		return 'f'
	case 13:
		return 'r'
	}
	return 0
}
