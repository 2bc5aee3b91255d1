package lex_test

import (
	"testing"

	"refectory/lex"
)

// P4.1, texts in one line.
func TestQuoted(t *testing.T) {
	for s, want := range map[string]string{
		`""`:                         "",
		`"a b"`:                      "a b",
		`"\""`:                       `"`,
		`"\\"`:                       `\`,
		`"\\\""`:                     `\"`,
		`"a\"b\\"`:                   `a"b\`,
		`"\/\b\f\n\r\t"`:             "/\b\f\n\r\t",
		`"\u0041\u00E9\ud83d\ude00"`: "A\u00e9\U0001f600",
		`"\u0022\u000a"`:             "\"\n",
		"\"\u00e9\u2028\x7f\ufffd\"": "\u00e9\u2028\x7f\ufffd",
		`"#{}(),..."`:                "#{}(),...",
		`"'"`:                        "'",
	} {
		wantOne(t, s, lex.Str, want)
	}
	wantTokens(t, `"a""b"`, tokens{strAt(0, "a"), strAt(3, "b")})
	wantTokens(t, `"\\"a"\\"`, tokens{strAt(0, `\`), nameAt(4, "a"), strAt(5, `\`)})
	wantTokens(t, `"" ""`, tokens{strAt(0, ""), strAt(3, "")})
}

func TestQuotedWrong(t *testing.T) {
	wantWrong(t, 0, `"`, `"a`, `"\"`, `"\\\"`, `"\`, `"a\`,
		"\"\n\"", "\"\r\"", "\"a\nb\"", "\"a\r\nb\"", "\"a\n", "\"\\\n\"", "\"\\\r\"", "\"a\\\nb\"",
		"\"\t\"", "\"\x00\"", "\"\x1f\"", `"\q"`, `"\x41"`, `"\'"`, `"\u12"`, `"\u{41}"`, `"\ud800"`, `"\udc00"`,
		"\"\xff\"", "\"\xed\xa0\x80\"", "\"\xc3\"", "\"\\\xff\"", "\"\\\u00e9\"")
	wantWrong(t, 3, `a,("b`, `"a""\q"`, "\"a\"\"\n\"", `"a""`)
}

// P4.1, texts between three quotes.
func TestBlocks(t *testing.T) {
	for s, want := range map[string]string{
		`""""""`:                             "",
		`"""a"""`:                            "a",
		`""" a """`:                          " a ",
		`""""a"""`:                           `"a`,
		`"""""a"""`:                          `""a`,
		`"""a"b""c"""`:                       `a"b""c`,
		`"""a\"""b\"""c"""`:                  `a"""b"""c`,
		`"""\""""""`:                         `"""`,
		`"""\"""\""""""`:                     `""""""`,
		`"""\\""""""`:                        `\"""`,
		`"""\"a\""b"""`:                      `\"a\""b`,
		`"""a\n\u0041\q\"""" """`:            `a\n\u0041\q"""" `,
		`"""\ """`:                           `\ `,
		"\"\"\"\n  a\n    b\n  \"\"\"":       "a\n  b",
		"\"\"\"a\r\n  b\r  c\n\n\"\"\"":      "a\nb\nc",
		"\"\"\"\r\n\t\\\"\"\"a\r\n\tb\"\"\"": "\"\"\"a\nb",
		"\"\"\"a\t\"\"\"":                    "a\t",
		"\"\"\"\n \t \n\"\"\"":               "",
		"\"\"\"\u00e9\x7f\u2028\ufffd\"\"\"": "\u00e9\x7f\u2028\ufffd",
		`"""# a, {}"""`:                      "# a, {}",
	} {
		wantOne(t, s, lex.Str, want)
	}
	wantTokens(t, `"""""""" """a"""b`, tokens{strAt(0, ""), strAt(6, ""), strAt(9, "a"), nameAt(16, "b")})
	wantTokens(t, `"""a""""b"`, tokens{strAt(0, "a"), strAt(7, "b")})
	wantTokens(t, `""""""""""""`, tokens{strAt(0, ""), strAt(6, "")})
	wantTokens(t, "\"\"\"a\n\"\"\"#\n-1", tokens{strAt(0, "a"), wholeAt(10, "-1")})
}

func TestBlocksWrong(t *testing.T) {
	wantWrong(t, 0, `"""`, `""""`, `"""""`, `"""a`, `"""a"`, `"""a""`, `"""\"""`, `"""\"""a""`, `"""\""""`, `"""\"""""`, `"""\\"""`, `"""a\`, `"""a" "" `,
		"\"\"\"\x00\"\"\"", "\"\"\"a\x01\"\"\"", "\"\"\"\b\"\"\"", "\"\"\"\v\"\"\"", "\"\"\"\f\"\"\"", "\"\"\"\x0e\"\"\"", "\"\"\"\x1f\"\"\"",
		"\"\"\"\xff\"\"\"", "\"\"\"\xe2\x82\"\"\"", "\"\"\"\xed\xa0\x80\"\"\"", "\"\"\"\xc3\\\"\"\"\xa9\"\"\"", "\"\"\"\xc0\x80\"\"\"")
	wantWrong(t, 2, "a \"\"\"\\\"\"\"", "a \"\"\"\n\"\"", "a,\"\"\"\x02\"\"\"")
	wantWrong(t, 6, `"""""""`, `""""""?`)
	wantWrong(t, 7, `"""a""""`, "\"\"\"a\"\"\"\"\n\"")
}
