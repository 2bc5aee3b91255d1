package lex_test

import (
	"regexp"
	"slices"
	"strings"
	"testing"
	"unicode/utf8"

	"refectory/api"
	"refectory/lex"
	"refectory/runes"
)

var (
	nothing    = regexp.MustCompile("^(?:[ \t\n\r,]|#[^\n\r]*)+")
	nameFront  = regexp.MustCompile(`^[A-Za-z_][A-Za-z_0-9]*`)
	digitFront = regexp.MustCompile(`^[-0-9][-+._0-9A-Za-z]*`)
	aNumber    = regexp.MustCompile(`^-?(?:0|[1-9][0-9]*)(\.[0-9]+)?([eE][-+]?[0-9]+)?$`)
	quoteFront = regexp.MustCompile(`^"(?:[^"\\\n\r]|\\[^\n\r])*"`)
	signFront  = regexp.MustCompile(`^(?:[!$&():=@\[\]{|}]|\.\.\.)`)
	control    = regexp.MustCompile("[\x00-\x08\x0b\x0c\x0e-\x1f]")
)

// mark stands for an escaped fence; no text of these tests has it.
const mark = "\U000f0000"

// frontBlock is the text between three quotes that s begins with, and its bytes there; 0: none.
func frontBlock(s string) (string, int) {
	raw, _, closed := strings.Cut(strings.ReplaceAll(s[3:], `\"""`, mark), `"""`)
	if !closed || control.MatchString(raw) || !utf8.ValidString(raw) {
		return "", 0
	}
	size := len(strings.ReplaceAll(raw, mark, `\"""`)) + 6
	return runes.Block(strings.ReplaceAll(raw, mark, `"""`)), size
}

func frontNumber(s string) (lex.Token, int) {
	front := digitFront.FindString(s)
	m := aNumber.FindStringSubmatch(front)
	if m == nil || len(front) > api.MaxName {
		return lex.Token{}, 0
	}
	if m[1]+m[2] == "" {
		return wholeAt(0, front), len(front)
	}
	return decAt(0, front), len(front)
}

// frontWord is the token that s begins with, by patterns; 0: none.
func frontWord(s string) (lex.Token, int) {
	switch {
	case nameFront.MatchString(s):
		if n := nameFront.FindString(s); len(n) <= api.MaxName {
			return nameAt(0, n), len(n)
		}
	case digitFront.MatchString(s):
		return frontNumber(s)
	case strings.HasPrefix(s, `"""`):
		b, size := frontBlock(s)
		return strAt(0, b), size
	case quoteFront.MatchString(s):
		q := quoteFront.FindString(s)
		if u, ok := runes.Unquote(q); ok {
			return strAt(0, u), len(q)
		}
	case signFront.MatchString(s):
		n := signFront.FindString(s)
		return signAt(0, n), len(n)
	}
	return lex.Token{}, 0
}

// expected is what the document asks for, by patterns.
func expected(s string) (tokens, int, api.Errno) {
	var all tokens
	at := len(nothing.FindString(s))
	for at < len(s) {
		token, size := frontWord(s[at:])
		if size == 0 {
			return nil, at, api.ErrText
		}
		token.At = at
		all = append(all, token)
		at += size
		at += len(nothing.FindString(s[at:]))
	}
	return all, 0, api.OK
}

func holdAgainst(t *testing.T, s string) {
	t.Helper()
	want, wantAt, wantErrno := expected(s)
	got, at, errno := lex.All(s)
	if errno != wantErrno || at != wantAt || !slices.Equal(got, want) {
		t.Errorf("All(%q) is %v, %d, %d, not %v, %d, %d", s, got, at, errno, want, wantAt, wantErrno)
	}
}

// eachText calls f with every text of at most n of the parts.
func eachText(parts []string, n int, f func(string)) {
	var grow func(string, int)
	grow = func(s string, left int) {
		f(s)
		if left == 0 {
			return
		}
		for _, p := range parts {
			grow(s+p, left-1)
		}
	}
	grow("", n)
}

// P4.1: texts of whatever order.
func TestEachShortText(t *testing.T) {
	for _, c := range []struct {
		most  int
		parts []string
	}{
		{8, []string{`"`, `\`, "a", "\n"}},
		{6, []string{`"`, `"""`, `\`, " ", "\r", "\xff", "\x01"}},
		{5, []string{"-", "+", "0", "1", ".", "e", "_", " ", "\u00e9"}},
		{5, []string{"a", "#", "\n", "\r", ",", `"`, "...", "?"}},
		{4, []string{"a", "9", "-", "...", ".", "(", `"`, `""`, `"b"`, `\u0041`, "#", " ", "\n", "\x00"}},
	} {
		eachText(c.parts, c.most, func(s string) { holdAgainst(t, s) })
	}
}

func TestEachTwoBytes(t *testing.T) {
	for a := range 256 {
		for b := range 256 {
			holdAgainst(t, string([]byte{byte(a), byte(b)}))
		}
	}
}

// piece is how a token is written, and what it is.
type piece struct {
	text string
	is   lex.Token
}

func pieces() []piece {
	longest := strings.Repeat("n", api.MaxName)
	return []piece{
		{"a", nameAt(0, "a")}, {"_9", nameAt(0, "_9")}, {"e", nameAt(0, "e")}, {longest, nameAt(0, longest)},
		{"0", wholeAt(0, "0")}, {"-12", wholeAt(0, "-12")}, {"1.5", decAt(0, "1.5")}, {"1e5", decAt(0, "1e5")},
		{`""`, strAt(0, "")}, {`"a # \" b"`, strAt(0, `a # " b`)}, {`""""""`, strAt(0, "")}, {"\"\"\"\n  a\n   \\\"\"\"\n\"\"\"", strAt(0, "a\n \"\"\"")},
		{"...", signAt(0, "...")}, {"(", signAt(0, "(")}, {"!", signAt(0, "!")}, {"}", signAt(0, "}")},
	}
}

func blanks() []string {
	return []string{" ", ",", "\t", "\n", "\r", "\r\n", " ,\t\r\n", "#\n", "#\r", "# \" ? \xff\n", ",#a\r\n#b\n "}
}

// laid is the pieces with a blank around each of them.
func laid(blank string, parts ...piece) (string, tokens) {
	var s strings.Builder
	var want tokens
	for _, p := range parts {
		s.WriteString(blank)
		p.is.At = s.Len()
		want = append(want, p.is)
		s.WriteString(p.text)
	}
	return s.String() + blank, want
}

// P4.2: blanks between tokens turn nothing but At.
func TestBlanksBetween(t *testing.T) {
	for _, blank := range blanks() {
		for _, a := range pieces() {
			for _, b := range pieces() {
				s, want := laid(blank, a, b, a)
				wantTokens(t, s, want)
			}
		}
		s, want := laid(blank, pieces()...)
		wantTokens(t, s, want)
	}
}

// P4.2: tokens that stand side by side are the same ones with blanks between.
func TestBlanksLaidBetween(t *testing.T) {
	for _, s := range []string{"a(b:-1)", "{a{...b@c}}", `a"b"-1""c`, `""""""""`, "......", "query($a:[Int!]=1.5){a(b:{c:\"\"\"d\"\"\"})}", "a#x\nb"} {
		all, _, errno := lex.All(s)
		if errno != api.OK || len(all) == 0 {
			t.Errorf("All(%q) is %v, %d", s, all, errno)
		}
		for _, blank := range blanks() {
			spread, want := "", slices.Clone(all)
			for i := range all {
				end := len(s)
				if i+1 < len(all) {
					end = all[i+1].At
				}
				spread += blank
				want[i].At = len(spread)
				spread += s[all[i].At:end]
			}
			wantTokens(t, spread, want)
		}
	}
}

// P4.2: a blank inside of a token is no blank between two.
func TestBlanksInside(t *testing.T) {
	wantTokens(t, "a b", tokens{nameAt(0, "a"), nameAt(2, "b")})
	wantTokens(t, "1 2", tokens{wholeAt(0, "1"), wholeAt(2, "2")})
	wantOne(t, `"a b"`, lex.Str, "a b")
	wantOne(t, `"a,b"`, lex.Str, "a,b")
	wantWrong(t, 0, "- 1", ".. .", ". ..")
}

// P4.2: nor do they turn what is wrong but its place.
func TestBlanksAheadOfWrong(t *testing.T) {
	for _, blank := range blanks() {
		for _, wrong := range []string{"?", "01", "-", `"`, `"""`, `"\q"`, "..", strings.Repeat("a", api.MaxName+1)} {
			wantErrno(t, blank+wrong, len(blank), api.ErrText)
			wantErrno(t, "("+blank+wrong, 1+len(blank), api.ErrText)
		}
	}
}
