package runes_test

import (
	"fmt"
	"strings"
	"testing"
	"unicode/utf8"

	"refectory/runes"
)

// P1.2, Quote.
func TestQuote(t *testing.T) {
	for s, want := range map[string]string{
		"":                         `""`,
		"plain text":               `"plain text"`,
		"a\n":                      `"a\n"`,
		"\"":                       `"\""`,
		"\\":                       `"\\"`,
		"\\n":                      `"\\n"`,
		"/'<>&":                    `"/'<>&"`,
		"\b\t\n\f\r":               `"\b\t\n\f\r"`,
		"\x00\x01\x07\x0b\x0e\x1f": `"\u0000\u0001\u0007\u000b\u000e\u001f"`,
		" ~\x7f\u0080\u009f":       "\" ~\\u007f\u0080\u009f\"",
		"\u00e9\u2028\u2029\ufeff": "\"\u00e9\u2028\u2029\ufeff\"",
		"\ufffd\uffff\U0001f600":   "\"\ufffd\uffff\U0001f600\"",
		"\U0010ffff":               "\"\U0010ffff\"",
		"a\xff":                    "",
		"\xed\xa0\x80":             "",
		"\xc0\x80":                 "",
	} {
		if got := runes.Quote(s); got != want {
			t.Errorf("Quote(%q) is %q", s, got)
		}
	}
}

// quoted is what the document says of one code point.
func quoted(c rune) string {
	short := map[rune]string{'"': `\"`, '\\': `\\`, 8: `\b`, 9: `\t`, 10: `\n`, 12: `\f`, 13: `\r`}
	switch {
	case short[c] != "":
		return short[c]
	case c < 32 || c == 127:
		return fmt.Sprintf(`\u%04x`, c)
	}
	return string(c)
}

// P1.2, P1.4.
func TestQuoteOfEachPoint(t *testing.T) {
	eachPoint(func(c rune) {
		q := runes.Quote(string(c))
		if q != `"`+quoted(c)+`"` {
			t.Errorf("Quote of %U is %q", c, q)
		}
		if s, ok := runes.Unquote(q); s != string(c) || !ok {
			t.Errorf("Unquote(%q) is %q, %v", q, s, ok)
		}
	})
}

// P1.2, Unquote.
func TestUnquote(t *testing.T) {
	for s, want := range map[string]string{
		`""`:                           "",
		`"plain text"`:                 "plain text",
		`"\"\\\/\b\f\n\r\t"`:           "\"\\/\b\f\n\r\t",
		`"/"`:                          "/",
		`"\\u0041"`:                    `\u0041`,
		"\" \x7f\u0080\U0010ffff\"":    " \x7f\u0080\U0010ffff",
		"\"\ufffd\"":                   "\ufffd",
		`"\u0000\u001f\u007F"`:         "\x00\x1f\x7f",
		`"\u0022\u005c"`:               "\"\\",
		`"\u00e9\u00E9\uabcd\uABCD"`:   "\u00e9\u00e9\uabcd\uabcd",
		`"\u00410"`:                    "A0",
		`"\ufffd\uffff"`:               "\ufffd\uffff",
		`"\ud7ff\ue000"`:               "\ud7ff\ue000",
		`"\ud800\udc00"`:               "\U00010000",
		`"\uD800\uDFFF"`:               "\U000103ff",
		`"\uDBFF\uDC00"`:               "\U0010fc00",
		`"\udbff\udfff"`:               "\U0010ffff",
		`"a\ud83d\uDE00\ud83D\ude01b"`: "a\U0001f600\U0001f601b",
	} {
		if got, ok := runes.Unquote(s); got != want || !ok {
			t.Errorf("Unquote(%q) is %q, %v", s, got, ok)
		}
	}
}

func TestUnquoteRefuses(t *testing.T) {
	for _, s := range []string{
		"", `"`, "a", "ab", `"a`, `a"`, ` "a"`, `"a" `, "'a'",
		`"a"b"`, `"""`, `""""`,
		`"\"`, `"\\\"`, `"a\`,
		"\"\x00\"", "\"\t\"", "\"\n\"", "\"\r\"", "\"\x1f\"",
		`"\a"`, `"\v"`, `"\0"`, `"\x41"`, `"\'"`, `"\ "`, `"\N"`, `"\B"`, `"\U0041"`, "\"\\\n\"", "\"\\\u00e9\"",
		`"\u"`, `"\u1"`, `"\u12"`, `"\u123"`, `"\u123"4"`,
		`"\ug000"`, `"\u000g"`, `"\u00G0"`, `"\u+041"`, `"\u-041"`, `"\u 041"`, `"\u0x41"`, `"\u{41}"`,
		`"\u004/"`, `"\u004:"`, `"\u004@"`, "\"\\u004`\"", "\"\\u004\uff11\"",
		`"\ud800"`, `"\udbff"`, `"\udc00"`, `"\udfff"`,
		`"\ud800a"`, `"\ud800\n"`, `"\ud800\\"`, `"\ud800\/"`, `"\ud800 \udc00"`,
		`"\ud800\u0041"`, `"\ud800\ue000"`, `"\ud800\ud7ff"`, `"\ud800\udbff"`,
		`"\ud800\ud800\udc00"`, `"\udc00\ud800"`, `"\ud800\udc00\udc00"`, `"\ud800\udc00\ud800"`,
		`"\ud800\"`, `"\ud800\u"`, `"\ud800\udc0"`,
		"\"\xff\"", "\"\xed\xa0\x80\"", "\"\\ud800\xed\xb0\x80\"", "\"\xc0\xa2\"", "\"\xc3\"",
	} {
		if got, ok := runes.Unquote(s); got != "" || ok {
			t.Errorf("Unquote(%q) is %q, %v", s, got, ok)
		}
	}
}

func TestUnquoteOfEachCode(t *testing.T) {
	for code := range rune(0x10000) {
		half := 0xD800 <= code && code <= 0xDFFF
		for _, form := range []string{`"\u%04x"`, `"\u%04X"`} {
			s := fmt.Sprintf(form, code)
			want := string(code)
			if half {
				want = ""
			}
			if got, ok := runes.Unquote(s); got != want || ok == half {
				t.Errorf("Unquote(%q) is %q, %v", s, got, ok)
			}
		}
	}
}

func TestUnquoteOfEachPair(t *testing.T) {
	for c := rune(0x10000); c <= 0x10FFFF; c += 7 {
		first, second := 0xD800+(c-0x10000)>>10, 0xDC00+(c-0x10000)&0x3FF
		s := fmt.Sprintf(`"\u%04x\u%04X"`, first, second)
		if got, ok := runes.Unquote(s); got != string(c) || !ok {
			t.Errorf("Unquote(%q) is %q, %v", s, got, ok)
		}
	}
}

// P1.4: whatever stands together.
func TestUnquoteOfQuote(t *testing.T) {
	parts := []string{`"`, `\`, "/", "u", "n", "0", "\n", "\x00", "\x7f", "\u00e9", "\ufffd", "\U0001f600", "\xed", "\xa0"}
	eachText(parts, 4, func(s string) {
		q := runes.Quote(s)
		if !utf8.ValidString(s) {
			if q != "" {
				t.Errorf("Quote(%q) is %q", s, q)
			}
			return
		}
		if got, ok := runes.Unquote(q); got != s || !ok {
			t.Errorf("Unquote(%q) is %q, %v", q, got, ok)
		}
	})
	long := strings.Repeat("a\"\\\n\x01\u20ac", 10000)
	if got, ok := runes.Unquote(runes.Quote(long)); got != long || !ok {
		t.Errorf("a long text does not come back")
	}
}

// R1, R2: no text makes Unquote panic, and beside a false the text is empty.
func TestUnquoteOfAnything(t *testing.T) {
	parts := []string{`"`, `\`, "u", "d", "8", "c", "0", "\n", "\xff", `\ud800`, `\udc00`}
	eachText(parts, 5, func(s string) {
		for _, q := range []string{s, `"` + s + `"`} {
			got, ok := runes.Unquote(q)
			if !ok && got != "" || !utf8.ValidString(got) {
				t.Errorf("Unquote(%q) is %q, %v", q, got, ok)
			}
		}
	})
}
