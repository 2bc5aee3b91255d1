package sdl_test

import (
	"reflect"
	"strings"
	"testing"

	"refectory/api"
	"refectory/sdl"
)

func wantErrno(t *testing.T, s string, wantAt int, want api.Errno) {
	t.Helper()
	if x, at, errno := sdl.Parse(s); at != wantAt || errno != want || !reflect.DeepEqual(x, api.Schema{}) {
		t.Errorf("Parse(%.90q) is %+v, %d, %d, not %d, %d", s, x, at, errno, wantAt, want)
	}
}

// wantWrong takes texts with a ^ ahead of the token that is none, or at their end.
func wantWrong(t *testing.T, marked ...string) {
	t.Helper()
	for _, s := range marked {
		front, rest, ok := strings.Cut(s, "^")
		if !ok {
			t.Errorf("no mark in %q", s)
		}
		const ahead = "scalar A#{\n,\"about\"\ninterface F{a:Int} "
		wantErrno(t, front+rest, len(front), api.ErrText)
		wantErrno(t, ahead+front+rest, len(ahead+front), api.ErrText)
		if rest == "" {
			wantErrno(t, front+" #x", len(front+" #x"), api.ErrText)
		}
	}
}

// P8.2, ErrText: the token that is none, in definitions.
func TestWrongDefinitions(t *testing.T) {
	wantWrong(t,
		"^a", "^{", "^1", "^}", "^@", "^...", "^!", "^$a", "^Type A{a:Int}", "^types", "^SCALAR A", "^query", "^mutation", "^implements", "^extend type A{a:Int}", "^directive @a on FIELD", "^fragment F on A{a}", "^{a}", `"x"^`, `"x" ^"y" scalar A`, `"x"^a`, `"scalar"^`, "\"\"\"x\"\"\"^{",
		"scalar^", "scalar ^{", "scalar ^1", `scalar ^"A"`, "scalar ^:A", "scalar A ^B", "scalar A^}", "scalar A ^@a", "scalar A^=B", "scalar A^{a:Int}",
		"type^", "type ^1", "type ^{a:Int}", `type ^"A"{a:Int}`, "type A^", "type A^:", "type A^=B", "type A ^B", `type A^"x"{a:Int}`, "type A^@a{a:Int}", "type A{^", "type A{^}", "type A{a:Int}^{b:Int}", "type A{a:Int}^}",
		"type A implements^", "type A implements^{a:Int}", "type A implements ^&B{a:Int}", "type A implements ^1{a:Int}", `type A implements ^"B"{a:Int}`, "type A implements B^", "type A implements B ^C{a:Int}", "type A implements B&^{a:Int}", "type A implements B&^&C{a:Int}", "type A implements B&^", "type A implements B^|C{a:Int}", "type A implements B&C^", "type A implements B&C ^scalar D", "type A ^Implements B{a:Int}", "type A implements B{^}",
		"interface^", "interface ^{a:Int}", "interface A^", "interface A{^}", "interface A ^implements B{a:Int}", "interface A^=B", "interface A{a:Int^", "interface A{a:Int}^&",
		"union^", "union ^=A", "union U^", "union U^{A}", "union U^:A", "union U=^", "union U=^|A", "union U=^{A}", "union U=^1", `union U=^"x"A`, "union U=A|^", "union U=A|^|B", `union U=A|^"x"B`, "union U=A ^B", "union U=A^&B", "union U=A^=B", "union U=A|B^:",
		"enum^", "enum ^{A}", "enum E^", "enum E^=A", "enum E{^", "enum E{^}", "enum E{^1}", "enum E{^$a}", "enum E{^:}", "enum E{A^", "enum E{A^:B}", "enum E{A^|B}", "enum E{A^=1}", "enum E{A^@a}", `enum E{"x"^}`, `enum E{A"x"^}`, `enum E{"x"^"y"A}`, `enum E{A "x"^`, "enum E{A ^-1}",
	)
}

// P8.2, ErrText: the token that is none, in what queries and mutations begin with.
func TestWrongRoots(t *testing.T) {
	wantWrong(t,
		"schema^", "schema ^a", "schema^:", "schema{^", "schema{^}", "schema{^mutation:M}", "schema{^a:B}", `schema{^"x"query:A}`, `schema{^"query":A}`, "schema{query^", "schema{query^}", "schema{query ^A}", "schema{query:^", "schema{query:^}", "schema{query:^1}", "schema{query:^[A]}", "schema{query:A^", "schema{query:A^!}", "schema{query:A ^query:B}", "schema{query:A ^subscription:B}", `schema{query:A^"x"mutation:B}`, "schema{query:A mutation^", "schema{query:A mutation^}", "schema{query:A mutation ^B}", "schema{query:A mutation:^", "schema{query:A mutation:^}", "schema{query:A mutation:B^", "schema{query:A mutation:B ^mutation:C}", "schema{query:A mutation:B ^x}", "schema{query:A}^}", "schema{query:A}^{query:B}", "schema ^A{query:A}",
		"schema{query:A}^schema{query:B}", "schema{query:A}^schema", "schema{query:A}^schema{query:A}", "schema{query:A mutation:B}scalar S ^schema{query:A}", `schema{query:A}"x"^schema{query:B}`, "scalar S schema{query:A}type T{a:Int}^schema{", "schema{query:A}scalar schema ^schema{query:A}",
	)
}

// P8.2, ErrText: the token that is none, in fields and inputs.
func TestWrongFields(t *testing.T) {
	for _, s := range []string{
		"^1:Int", "^$a:Int", "^:Int", `"x"^`, `"x"^}`, `"x"^:Int`, `"x"^"y"a:Int`, "a^", "a^}", "a ^b:Int", "a^=1", "a^{b:Int}", "a^@cost(n:1):Int", "a:Int^:Int", "a:Int ^1", "a:Int^=1", "a:Int!^!", "a:Int^(b:Int)", "a:Int^{b:Int}", `a:Int"x"^}`, "a:Int b^}", "a:Int^&b:Int", "a:Int^|b:Int", "a:Int^]", "a:Int^$", "a:Int ^...",
		"a(^", "a(^)", "a(^):Int", "a(^:Int):Int", "a(^1:Int):Int", "a(^$b:Int):Int", `a("x"^):Int`, `a("x"^"y"b:Int):Int`, "a(b^):Int", "a(b ^c:Int):Int", "a(b:Int^", "a(b:Int^:Int):Int", "a(b:Int^}", "a(b:Int^]):Int", "a(b:Int^(c:Int)):Int", "a(b:Int)^", "a(b:Int)^}", "a(b:Int) ^Int", "a(b:Int)^(c:Int):Int", "a(b:Int)^=1", "a(b:Int^@cost(n:1)):Int", "a(b:Int=1^=1):Int", "a(b:Int=1 ^2):Int", `a(b:Int=1"x"^):Int`, "a(b:Int=1^", "a(b:Int c^):Int", "a(b:Int^&c:Int):Int",
		"a:Int@^", "a:Int@^}", "a:Int@^(n:1)", "a:Int@^Cost(n:1)", "a:Int@^x(n:1)", `a:Int@^"cost"(n:1)`, "a:Int@^@cost(n:1)", "a:Int@cost^", "a:Int@cost^}", "a:Int@cost^:1", "a:Int@cost(^", "a:Int@cost(^)", "a:Int@cost(^m:1)", "a:Int@cost(^1)", `a:Int@cost(^"n":1)`, "a:Int@cost(^N:1)", "a:Int@cost(n^", "a:Int@cost(n^)", "a:Int@cost(n ^1)", "a:Int@cost(n^=1)", "a:Int@cost(n:^", "a:Int@cost(n:^)", "a:Int@cost(n:^1.5)", "a:Int@cost(n:^-1.0)", "a:Int@cost(n:^1e1)", "a:Int@cost(n:^x)", "a:Int@cost(n:^null)", `a:Int@cost(n:^"1")`, "a:Int@cost(n:^$x)", "a:Int@cost(n:^[1])", "a:Int@cost(n:1^", "a:Int@cost(n:1^}", "a:Int@cost(n:1 ^2)", "a:Int@cost(n:1 ^n:2)", "a:Int@cost(n:1)^(n:1)", "a:Int@cost(n:1)^@cost(n:2)", "a:Int@cost(n:1)^!", "a:Int@cost(n:1)^=1",
	} {
		wantWrong(t, "type T{"+s, "interface F{"+s, "type T implements F{b(c:S=1):S@cost(n:1) "+s)
	}
	for _, s := range []string{
		"^1:Int", "^:Int", "^$a:Int", `"x"^`, `"x"^}`, `"x"^"y"a:Int`, "a^", "a^}", "a ^b:Int", "a^=1", "a^(b:Int):Int", "a:Int^@cost(n:1)", "a:Int=1^@cost(n:1)", "a:Int^:Int", "a:Int^{", "a:Int=1^=1", "a:Int=1 ^2", "a:Int!^!", `a:Int="x""y"^}`, "a:Int^)", "a:Int^&b:Int", "a:Int b^}", "a:Int=1 b:Int^",
	} {
		wantWrong(t, "input I{"+s, "input I{b:[S!]={c:1} "+s)
	}
}

// P8.2: a default has no variables: the first one is the token that is none.
func TestWrongDefaults(t *testing.T) {
	for _, s := range []string{
		"^", "^}", "^)", "^:", "^=1", "^!", "^@", "^|", "^...", "^$b", "^$", "^$1", "[^$b]", "[1 ^$b]", "[1 ^$", "{b:^$c}", "{^$b:1}", "{b ^$c}", "[^}$b]", "[1^:$b]", "[[1]{c:2}^$b $c", "[1^)", "[1^", "{b^}", "{b:^}", "{b:1^", "{^1:1}", `{^"b":1}`, "1 ^$b", "[^$b" + strings.Repeat("[", 13), strings.Repeat("[", 12) + "^$b", strings.Repeat("{b:", 12) + "^}",
	} {
		wantWrong(t, "input I{a:Int="+s, "input I{b:Int=1 a:Int="+s, "type T{a(b:Int="+s, "interface F{a(b:Int=[] c:[Int]="+s)
	}
}

// P8.2: what must be a type and is none is wrong at its first token.
func TestWrongTypes(t *testing.T) {
	many := strings.Repeat("[", 13)
	for _, front := range []string{"type T{a:", "interface F{b:Int@cost(n:1) a:", "input I{a:", "type T{a(b:", "type T{a(b:Int=1 c:", "type T{a(b:Int):"} {
		for _, s := range []string{"", "!", "!A", "[", "[]", "[!]", "[A", "[A=1", "[A)", "[A}", "[A!!]", "[[A!]!!]", "[[A]", "[[A)]", "[[[A]]", "$", "1", `"A"`, "{", "[1]", "[A B]", "[...", "=1", "@", "(", ":", "]", many + "A" + strings.Repeat("]", 13), many, many + "{a(b:" + many} {
			wantWrong(t, front+"^"+s, front+" \n^"+s)
			if s != "" {
				wantWrong(t, front+"^"+s+"}", front+"^"+s+"):Int}")
			}
		}
	}
}

// P8.2, ErrDeep: values; what stands ahead of it is first.
func TestDeep(t *testing.T) {
	const many = "[[[[[[[[[[[[["
	twelve := many[:12] + "1" + strings.Repeat("]", 12)
	for _, front := range []string{"input I{a:A=", "type T{a(b:A=", "scalar S interface F{a(b:A=1 c:B!=", "input I{a:A=" + twelve + " b:A="} {
		for s, at := range map[string]int{
			many: 12, many + "]": 12, many + many: 12, many + "$a": 12, strings.Repeat("{c:", 13): 36, strings.Repeat("{c:", 12) + "[$b": 36, strings.Repeat("[{c:", 7): 24, "[" + twelve: 12, "[1 {c:" + twelve: 6 + 10, strings.Repeat("[", 12) + "{$a": 12,
		} {
			wantErrno(t, front+s, len(front)+at, api.ErrDeep)
		}
		for s, at := range map[string]int{many[:12]: 12, many[:12] + "}" + many: 12, twelve + "!" + many: 25, "$a" + many: 0, many[:11] + "$a" + many: 11, many[:12] + "1" + strings.Repeat("]", 13) + many: 25} {
			wantErrno(t, front+s, len(front)+at, api.ErrText)
		}
	}
	wantErrno(t, "type T{a"+many, 8, api.ErrText)
	wantErrno(t, many, 0, api.ErrText)
	wantSchema(t, "input I{a:A="+twelve+"}", schema(input("I", inWith("a", "A", nested(12, num("1"))))))
}

func nested(n int, v api.Value) api.Value {
	for range n {
		v = list(v)
	}
	return v
}

// P8.2: lex's place and error are first.
func TestBounds(t *testing.T) {
	blanks := func(n int) string { return strings.Repeat(" ", n) }
	for s, at := range map[string]int{
		"?": 0, "} ?": 2, "scalar A ?": 9, "scalar A..": 8, "scalar A\xff": 8, "scalar a" + strings.Repeat("x", 40): 7, `"x scalar A`: 0, `scalar A "x`: 9, "input I{a:A=01}": 12, "input I{a:A=" + strings.Repeat("[", 13) + "?": 25, "schema{query:A}schema{query:A}?": 30, "type T{a:[A ?": 12, "scalar A'": 8, `"""x""`: 0, "type T{a:Int@cost(n:+1)}": 20, "type T{a:Int@cost(n:1" + strings.Repeat("0", 40) + ")}": 20,
		"}" + blanks(7998) + "?": 7999, blanks(7999) + "}": 7999, "\"x\"" + blanks(7997): 8000, "type T{" + strings.Repeat("a:A ", 1998): 7999, "#\xff\n?": 3,
	} {
		wantErrno(t, s, at, api.ErrText)
	}
	for _, s := range []string{blanks(8001), "scalar A" + blanks(7993), strings.Repeat("?", 8001), strings.Repeat("a", 8001), "}" + blanks(8000), strings.Repeat("scalar A ", 889), "scalar A#" + blanks(7992), "input I{a:A=" + strings.Repeat("[", 8000), blanks(100000)} {
		wantErrno(t, s, 0, api.ErrBig)
	}
	for s, types := range map[string]int{blanks(8000): 0, "scalar A" + blanks(7992): 1, "scalar A#" + strings.Repeat("\xff", 7991): 1, strings.Repeat("scalar A ", 888): 888, `"` + strings.Repeat("x", 7990) + `"scalar A`: 1} {
		if x, at, errno := sdl.Parse(s); errno != api.OK || at != 0 || len(x.Types) != types {
			t.Errorf("Parse(%.20q..) of %d bytes is %d types, %d, %d", s, len(s), len(x.Types), at, errno)
		}
	}
}
