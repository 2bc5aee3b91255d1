package runes_test

import (
	"regexp"
	"strings"
	"testing"

	"refectory/runes"
)

// P1.3.
func TestBlock(t *testing.T) {
	for s, want := range map[string]string{
		"":                          "",
		"a":                         "a",
		"  a  ":                     "  a  ", // the first line keeps its blanks
		"a\nb":                      "a\nb",
		"a\n  b\n    c\n":           "a\nb\n  c",
		"\n    a\n  b\n":            "  a\nb",
		"      a\n    b\n     c":    "      a\nb\n c", // the first line has no say
		"a\n\t b\n \tc":             "a\nb\nc",        // 32 and 9 count alike
		"a\n\tb\n    c":             "a\nb\n   c",
		"a\n  b  \n  c\t":           "a\nb  \nc\t", // blanks at a line's end stay
		"a\rb\r\nc\nd":              "a\nb\nc\nd",
		"a\r\r\nb":                  "a\n\nb",
		"a\r\n\nb":                  "a\n\nb",
		"a\n\rb":                    "a\n\nb",
		"a\n\r\nb":                  "a\n\nb",
		"a\r\n\r\nb":                "a\n\nb",
		"a\r\rb":                    "a\n\nb",
		"a\n\nb":                    "a\n\nb",
		"a\r":                       "a",
		"a\r\n":                     "a",
		"\r\na":                     "a",
		"a\n   \n  b":               "a\n \nb", // a blank line gives as many
		"a\n \n  b":                 "a\n\nb",  // or all it has
		"a\n\n    b\n \n    c":      "a\n\nb\n\nc",
		"\n \n\t\n  a\n\n  b\n \n ": "a\n\nb",
		" \n  a":                    "a",
		"  a\n ":                    "  a",
		"a\n  ":                     "a",
		"   ":                       "",
		"\n":                        "",
		" \r\n\t\r \n":              "",
		"a\n\u00a0 b\n  c":          "a\n\u00a0 b\n  c", // no blank but 32 and 9
		"a\n\v b":                   "a\n\v b",
		"a\u0085b\u2028c\fd":        "a\u0085b\u2028c\fd", // no end but 10 and 13
		"\u20ac\n  \u00e9\n   \"":   "\u20ac\n\u00e9\n \"",
		"a\n  \xff\n   \xe2\x82":    "a\n\xff\n \xe2\x82", // bytes stay as they are
	} {
		if got := runes.Block(s); got != want {
			t.Errorf("Block(%q) is %q", s, got)
		}
	}
}

var (
	lineEnd   = regexp.MustCompile("\r\n|\n|\r")
	blankLine = regexp.MustCompile(`^[ \t]*$`)
	blanks    = regexp.MustCompile(`^[ \t]*`)
)

// blockBySteps does what the document says, one sentence at a time.
func blockBySteps(s string) string {
	lines := lineEnd.Split(s, -1)
	least := 1 << 30
	for _, l := range lines[1:] {
		if !blankLine.MatchString(l) {
			least = min(least, len(blanks.FindString(l)))
		}
	}
	for i := 1; i < len(lines) && least < 1<<30; i++ {
		lines[i] = lines[i][min(least, len(blanks.FindString(lines[i]))):]
	}
	for len(lines) > 0 && blankLine.MatchString(lines[0]) {
		lines = lines[1:]
	}
	for len(lines) > 0 && blankLine.MatchString(lines[len(lines)-1]) {
		lines = lines[:len(lines)-1]
	}
	return strings.Join(lines, "\n")
}

func TestBlockOfShortTexts(t *testing.T) {
	eachText([]string{" ", "\t", "\n", "\r", "a", "\xff"}, 7, func(s string) {
		if got, want := runes.Block(s), blockBySteps(s); got != want {
			t.Errorf("Block(%q) is %q, not %q", s, got, want)
		}
	})
}

// R1: many lines, too, come to an end soon.
func TestBlockOfManyLines(t *testing.T) {
	s := strings.Repeat("\n   x", 20000)
	if got, want := runes.Block(s), strings.Repeat("x\n", 19999)+"x"; got != want {
		t.Errorf("a text of many lines: %d bytes, not %d", len(got), len(want))
	}
}
