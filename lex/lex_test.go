package lex_test

import (
	"slices"
	"strings"
	"testing"

	"refectory/api"
	"refectory/lex"
)

type tokens = []lex.Token

func nameAt(at int, s string) lex.Token  { return lex.Token{Kind: lex.Name, S: s, At: at} }
func wholeAt(at int, s string) lex.Token { return lex.Token{Kind: lex.Int, S: s, At: at} }
func decAt(at int, s string) lex.Token   { return lex.Token{Kind: lex.Dec, S: s, At: at} }
func strAt(at int, s string) lex.Token   { return lex.Token{Kind: lex.Str, S: s, At: at} }
func signAt(at int, s string) lex.Token  { return lex.Token{Kind: lex.Sign, S: s, At: at} }

func wantTokens(t *testing.T, s string, want tokens) {
	t.Helper()
	got, at, errno := lex.All(s)
	if errno != api.OK || at != 0 || !slices.Equal(got, want) {
		t.Errorf("All(%.80q) is %v, %d, %d, not %v", s, got, at, errno, want)
	}
}

func wantErrno(t *testing.T, s string, wantAt int, want api.Errno) {
	t.Helper()
	got, at, errno := lex.All(s)
	if errno != want || at != wantAt || len(got) != 0 {
		t.Errorf("All(%.80q) is %v, %d, %d, not %d, %d", s, got, at, errno, wantAt, want)
	}
}

// wantOne asks for one token that is the whole text.
func wantOne(t *testing.T, s string, kind int, said string) {
	t.Helper()
	wantTokens(t, s, tokens{{Kind: kind, S: said}})
}

func wantWrong(t *testing.T, at int, texts ...string) {
	t.Helper()
	for _, s := range texts {
		wantErrno(t, s, at, api.ErrText)
	}
}

// P4.1, the kinds.
func TestKinds(t *testing.T) {
	if got := [5]int{lex.Name, lex.Int, lex.Dec, lex.Str, lex.Sign}; got != [5]int{1, 2, 3, 4, 5} {
		t.Errorf("the kinds are %v", got)
	}
}

// P4.1, tokens and where they begin.
func TestAll(t *testing.T) {
	wantTokens(t, "a(b:-1)", tokens{nameAt(0, "a"), signAt(1, "("), nameAt(2, "b"), signAt(3, ":"), wholeAt(4, "-1"), signAt(6, ")")})
	wantTokens(t, "{a{...b@c}}", tokens{signAt(0, "{"), nameAt(1, "a"), signAt(2, "{"), signAt(3, "..."), nameAt(6, "b"), signAt(7, "@"), nameAt(8, "c"), signAt(9, "}"), signAt(10, "}")})
	wantTokens(t, "query($a:[Int!]=1.5)", tokens{nameAt(0, "query"), signAt(5, "("), signAt(6, "$"), nameAt(7, "a"), signAt(8, ":"), signAt(9, "["), nameAt(10, "Int"), signAt(13, "!"), signAt(14, "]"), signAt(15, "="), decAt(16, "1.5"), signAt(19, ")")})
	wantTokens(t, "\"\u00e9\" \"\\n\"x", tokens{strAt(0, "\u00e9"), strAt(5, "\n"), nameAt(9, "x")})
	wantTokens(t, "\"\"\"\n  a\n\"\"\"b", tokens{strAt(0, "a"), nameAt(11, "b")})
	wantTokens(t, "a\"b\"-1\"\"", tokens{nameAt(0, "a"), strAt(1, "b"), wholeAt(4, "-1"), strAt(6, "")})
	wantTokens(t, "a-1", tokens{nameAt(0, "a"), wholeAt(1, "-1")})
	wantTokens(t, "true null", tokens{nameAt(0, "true"), nameAt(5, "null")})
}

// P4.1, what says nothing.
func TestBlanksAndRemarks(t *testing.T) {
	for _, s := range []string{
		"", " ", "\t", "\n", "\r", ",", " ,\t\r\n,, ", "#", "##", "# \" ( ? a", "#\n", "#\r", "#\n#\r#",
		"# \u00e9 \u2028 \xff \x00 \x7f",
	} {
		wantTokens(t, s, nil)
	}
	wantTokens(t, "#a\nb#c\rd #e\r\nf#", tokens{nameAt(3, "b"), nameAt(7, "d"), nameAt(13, "f")})
	wantTokens(t, "#\xff\xe2\x82\na", tokens{nameAt(5, "a")})
	wantTokens(t, "\"#\" # \"\n a", tokens{strAt(0, "#"), nameAt(9, "a")})
	wantWrong(t, 0, "\v", "\f", "\x00", "\x7f", "\u00a0", "\ufeff", "\u0085", "\u2028", "\xff")
	wantWrong(t, 3, "a, \v", "# \n\u00a0", "#a\r?", "a#\n\x00 #")
}

// P4.1, names.
func TestNames(t *testing.T) {
	longest := "_" + strings.Repeat("z", api.MaxName-2) + "9"
	for _, s := range []string{"a", "z", "A", "Z", "_", "__typename", "a0", "_9", "e5", "on", longest} {
		wantOne(t, s, lex.Name, s)
	}
	wantWrong(t, 0, longest+"a", longest+"0", longest+"_", strings.Repeat("a", 2*api.MaxName), longest+"a(")
	wantWrong(t, 2, "  "+longest+"z")
	wantTokens(t, longest+"(", tokens{nameAt(0, longest), signAt(api.MaxName, "(")})
	wantTokens(t, longest+" "+longest, tokens{nameAt(0, longest), nameAt(api.MaxName+1, longest)})
	wantWrong(t, 1, "a\u00e9", "a.b", "a+1", "a..b", "a\x00", "a\xff", "a;", "a'b'")
}

// P4.1, numbers.
func TestNumbers(t *testing.T) {
	for _, s := range []string{"0", "-0", "7", "10", "-19", strings.Repeat("1", api.MaxName)} {
		wantOne(t, s, lex.Int, s)
	}
	for _, s := range []string{"0.0", "-1.50", "1e5", "1E5", "1e+05", "-0E-0", "1.5e3", "0." + strings.Repeat("1", api.MaxName-2)} {
		wantOne(t, s, lex.Dec, s)
	}
	wantTokens(t, "1 -2,3.0:4", tokens{wholeAt(0, "1"), wholeAt(2, "-2"), decAt(5, "3.0"), signAt(8, ":"), wholeAt(9, "4")})
	wantTokens(t, "1\"\"2#", tokens{wholeAt(0, "1"), strAt(1, ""), wholeAt(3, "2")})
	wantTokens(t, "1 ... 2", tokens{wholeAt(0, "1"), signAt(2, "..."), wholeAt(6, "2")})
	wantWrong(t, 0, "-", "--1", "-a", "00", "01", "-01", "1.", "1.e1", "1e", "1e+", "1.5.1", "1-1", "1+1", "1-", "1a", "1_", "0x1", "1Z", "1...", "1..2", "-...", "1e5e5", "1.a",
		strings.Repeat("1", api.MaxName+1), "0."+strings.Repeat("1", api.MaxName-1), "-"+strings.Repeat("1", api.MaxName))
	wantWrong(t, 0, "+1", ".5", "+")
	wantWrong(t, 1, "1\u00e9", "1?", "1\xff", "1/2", "1\u0661")
	wantWrong(t, 4, "a(b:01)", "1,2 3x")
}

// P4.1, signs.
func TestSigns(t *testing.T) {
	const all = "!$&():=@[]{|}"
	var want tokens
	for i := range len(all) {
		want = append(want, signAt(i, all[i:i+1]))
	}
	wantTokens(t, all, want)
	wantTokens(t, "......a...", tokens{signAt(0, "..."), signAt(3, "..."), nameAt(6, "a"), signAt(7, "...")})
	wantWrong(t, 0, ".", "..", ". ..", "..a", "\u2026")
	wantWrong(t, 3, "....", ".....", "...?", "...\u2026")
	for b := range 256 {
		s := string([]byte{byte(b)})
		switch {
		case strings.Contains(all, s):
			wantOne(t, s, lex.Sign, s)
		case strings.Contains("\"%'*+-./;<>?\\^`~", s) || b < 32 && !strings.Contains("\t\n\r", s) || b >= 127:
			wantWrong(t, 0, s)
		}
	}
}

// P4.1: more than MaxSchema bytes, ahead of all else.
func TestBig(t *testing.T) {
	all, at, errno := lex.All(strings.Repeat("a ", api.MaxSchema/2))
	if len(all) != api.MaxSchema/2 || at != 0 || errno != api.OK {
		t.Errorf("as many bytes as may be: %d tokens, %d, %d", len(all), at, errno)
	}
	wantTokens(t, strings.Repeat(" ", api.MaxSchema), nil)
	wantTokens(t, strings.Repeat(",", api.MaxSchema-1)+"a", tokens{nameAt(api.MaxSchema-1, "a")})
	wantOne(t, `"`+strings.Repeat("a", api.MaxSchema-2)+`"`, lex.Str, strings.Repeat("a", api.MaxSchema-2))
	wantErrno(t, strings.Repeat(" ", api.MaxSchema-1)+"?", api.MaxSchema-1, api.ErrText)
	for _, s := range []string{" ", "?", "a ", "#", `"`, "\xff"} {
		wantErrno(t, strings.Repeat(s, api.MaxSchema+1)[:api.MaxSchema+1], 0, api.ErrBig)
	}
	wantErrno(t, strings.Repeat("{", 1000000), 0, api.ErrBig)
}

// P4.1: of several wrong things the first one, and no token.
func TestFirstWrong(t *testing.T) {
	wantWrong(t, 0, "?01\"", "\"a\n?", "01 ?")
	wantWrong(t, 2, "a ? 01", "a 01 ?", "a \"\n ?", "a \"\"\" ?")
	wantWrong(t, 9, "{a(b:1)} ?{a}")
}

// R3, R4: what is answered once is nobody else's.
func TestNewMemory(t *testing.T) {
	const s = "a b c d e"
	first, _, _ := lex.All(s)
	for i := range first {
		first[i] = lex.Token{}
	}
	wantTokens(t, s, tokens{nameAt(0, "a"), nameAt(2, "b"), nameAt(4, "c"), nameAt(6, "d"), nameAt(8, "e")})
}
