package jread_test

import (
	"strings"
	"testing"

	"refectory/api"
	"refectory/jread"
	"refectory/jval"
)

type value = api.Value

var (
	null = value{Kind: api.Null}
	yes  = value{Kind: api.Bool, S: "true"}
	no   = value{Kind: api.Bool, S: "false"}
)

func whole(s string) value { return value{Kind: api.Int, S: s} }

func dec(s string) value { return value{Kind: api.Dec, S: s} }

func str(s string) value { return value{Kind: api.Str, S: s} }

func list(parts ...value) value { return value{Kind: api.List, List: parts} }

// obj has its names parted by commas; the empty text is no name at all.
func obj(names string, parts ...value) value {
	v := value{Kind: api.Obj, List: parts}
	if names != "" {
		v.Names = strings.Split(names, ",")
	}
	return v
}

// inside is a value with n lists around it.
func inside(n int, v value) value {
	for range n {
		v = list(v)
	}
	return v
}

// nested is a text with n lists around it.
func nested(n int, s string) string {
	return strings.Repeat("[", n) + s + strings.Repeat("]", n)
}

// filled is a text with as many blanks behind it as make it n bytes.
func filled(s string, n int) string {
	return s + strings.Repeat(" ", n-len(s))
}

// P3.1: the value.
func TestRead(t *testing.T) {
	long := strings.Repeat("9", api.MaxName)
	for s, want := range map[string]value{
		"null":                      null,
		"true":                      yes,
		"false":                     no,
		"0":                         whole("0"),
		"-0":                        whole("-0"),
		"120":                       whole("120"),
		long:                        whole(long),
		"1.50E+03":                  dec("1.50E+03"),
		"-0.0e-0":                   dec("-0.0e-0"),
		"1e5":                       dec("1e5"),
		`""`:                        str(""),
		`"a b"`:                     str("a b"),
		`"\""`:                      str(`"`),
		`"\\"`:                      str(`\`),
		`"\\\""`:                    str(`\"`),
		`"\u0041\/\ud83d\uDE00"`:    str("A/\U0001f600"),
		"\"\u00e9\x7f\u2028\"":      str("\u00e9\x7f\u2028"),
		`"[1,{"`:                    str("[1,{"),
		`"null"`:                    str("null"),
		"[]":                        list(),
		"{}":                        obj(""),
		"[[]]":                      list(list()),
		"[1,2]":                     list(whole("1"), whole("2")),
		` [1 , "a"] `:               list(whole("1"), str("a")),
		"[null,true,false,[],{}]":   list(null, yes, no, list(), obj("")),
		"[1,[2,[3]],4]":             list(whole("1"), list(whole("2"), list(whole("3"))), whole("4")),
		`{"a":1}`:                   obj("a", whole("1")),
		`{"b":1,"a":[2,3]}`:         obj("b,a", whole("1"), list(whole("2"), whole("3"))),
		`{"":1,"a":2}`:              obj(",a", whole("1"), whole("2")),
		`{"\u0061":1,"A":2}`:        obj("a,A", whole("1"), whole("2")),
		`{"a":{"a":1},"b":{"a":1}}`: obj("a,b", obj("a", whole("1")), obj("a", whole("1"))),
		`[{"a":1},{"a":1}]`:         list(obj("a", whole("1")), obj("a", whole("1"))),
		`{"a":1,"a\u0000":2}`:       obj("a,a\x00", whole("1"), whole("2")),
	} {
		if got, errno := jread.Read(s); errno != api.OK || !jval.Same(got, want) {
			t.Errorf("Read(%q) is %v, %d", s, got, errno)
		}
	}
}

// P3.1: blanks around signs and values, and nowhere else.
func TestBlanks(t *testing.T) {
	want := obj("a,b", list(whole("-1"), str(" x ")), obj(""))
	for _, b := range []string{"", " ", "\t", "\n", "\r", "\r\n", " \t\n\r \t"} {
		s := strings.ReplaceAll("~{~\"a\"~:~[~-1~,~\" x \"~]~,~\"b\"~:~{~}~}~", "~", b)
		if got, errno := jread.Read(s); errno != api.OK || !jval.Same(got, want) {
			t.Errorf("Read(%q) is %v, %d", s, got, errno)
		}
	}
	for _, b := range []string{"\f", "\v", "\x00", "\b", "\u00a0", "\u0085", "\u2028", "\u3000", "\ufeff", "/**/", "//\n", "#\n"} {
		for _, s := range []string{b + "1", "1" + b, "[" + b + "]", "[1" + b + ",2]", `{"a"` + b + `:1}`, `{"a":` + b + `1}`, b} {
			wantErrno(t, s, api.ErrText)
		}
	}
}

// wantErrno asks for that error, and for nothing beside it.
func wantErrno(t *testing.T, s string, want api.Errno) {
	t.Helper()
	v, errno := jread.Read(s)
	if errno != want || !jval.Same(v, value{}) {
		t.Errorf("Read(%.60q) is %v, %d, not %d", s, v, errno, want)
	}
}

// P3.1: ErrText.
func TestNoText(t *testing.T) {
	for _, s := range []string{
		"", " ", "\n",
		"nul", "nulll", "null0", "NULL", "Null", "n", "tru", "truee", "True", "fals", "falsee", "FALSE", "n ull", "nil", "undefined", "nulltrue",
		"01", "-01", "00", "1.", ".5", "-", "--1", "+1", "- 1", "1 .5", "1e", "1e+", "1E-", "e5", "1.e5", "1.5.5", "1e5e5", "1e5.5", "1-2", "0x1", "1_0", "1f", "1a", "NaN", "Infinity", "-Infinity", "\u0661",
		strings.Repeat("9", api.MaxName+1), "[" + strings.Repeat("9", api.MaxName+1) + "]", "0." + strings.Repeat("0", api.MaxName-1),
		`"`, `"a`, `a"`, "a", `"a""b"`, `"""`, `"\"`, `"\`, `"\\\"`, "'a'", "`a`",
		`"\x"`, `"\u12"`, `"\ud800"`, `"\udc00"`, `"\ud800x"`, "\"\n\"", "\"\t\"", "\"\x00\"", "\"\x1f\"", "\"\xff\"", "\"\xc3\"", "\"\xed\xa0\x80\"", "\xff",
		"[", "]", "[1", "[1,", "[,", "[,]", "[1,]", "[,1]", "[1,,2]", "[1 2]", `["a" "b"]`, "[1}", "[1:2]", "[[]", "[]]", "[[]]]", "[] []", "[][]", "[],", "(1)", `["a]`, "[nul]", "[01]",
		"{", "}", "{a:1}", "{1:1}", "{null:1}", "{[]:1}", "{\"a\"}", `{"a":}`, `{"a":1,}`, `{,"a":1}`, `{"a":1,,"b":2}`, `{"a" 1}`, `{"a",1}`, `{"a"::1}`, `{"a":1 "b":2}`, `{"a":1:"b"}`, `{"a":1]`, `{"a":1`, `{"a":1,`, `{"a":`, `{"a"`, `{"a`, `{,}`, `{:}`, `{:1}`, `{"a":1}}`, `{}{}`, `{"a":{}`, `{"\ud800":1}`, `{"a:1}`, `{'a':1}`, "{\"\xff\":1}",
		"1 2", "1,2", "1,", ",1", ",", ":", "1]", "null null", `"a" "b"`, "1 x", "[]x", "$a", "A", "-a", "\ufeff1",
	} {
		wantErrno(t, s, api.ErrText)
	}
}

// P3.1: ErrBig, at the edge, and ahead of all others.
func TestBig(t *testing.T) {
	for _, s := range []string{"1", "[1]", `"a"`} {
		want, _ := jread.Read(s)
		got, errno := jread.Read(filled(s, api.MaxText))
		if errno != api.OK || got.Kind == 0 || !jval.Same(got, want) {
			t.Errorf("%q at the edge is %v, %d", s, got, errno)
		}
	}
	two := "\"" + strings.Repeat("\u00e9", api.MaxText/2) // bytes count, not code points
	for _, s := range []string{"1", "x", "", nested(13, ""), `{"a":1,"a":2}`, two + `"`} {
		wantErrno(t, filled(s, max(len(s), api.MaxText+1)), api.ErrBig)
	}
	wantErrno(t, filled("", api.MaxText), api.ErrText)
	wantErrno(t, strings.Repeat("[", api.MaxText), api.ErrText)
	wantErrno(t, strings.Repeat("[", api.MaxText+1), api.ErrBig)
	wantErrno(t, strings.Repeat("[", 1<<24), api.ErrBig)
}

// P3.1: ErrDeep, at the edge, of lists and of objects, and behind ErrText.
func TestDeep(t *testing.T) {
	for _, s := range []string{nested(11, "1"), nested(12, ""), nested(11, "{}"), nested(10, `{"a":[]}`), nested(11, "1,[],2"), "[" + nested(11, "") + "," + nested(11, "") + "]"} {
		if v, errno := jread.Read(s); errno != api.OK || !jval.Check(v) {
			t.Errorf("Read(%q) is %v, %d", s, v, errno)
		}
	}
	ring := strings.Repeat(`{"a":`, 12)
	for _, s := range []string{nested(12, "1"), nested(12, "null"), nested(12, `""`), nested(13, ""), nested(12, "{}"), nested(11, `{"a":1}`), nested(api.MaxText/2, ""), ring + "1" + strings.Repeat("}", 12), "[1," + nested(12, "") + ",2]", "[[]," + nested(12, "") + "]", `{"a":1,"b":` + nested(12, "") + "}"} {
		wantErrno(t, s, api.ErrDeep)
	}
	for _, s := range []string{nested(13, "") + "]", "[" + nested(13, ""), nested(13, "") + "x", nested(13, "x"), nested(13, "01"), nested(13, "1,"), "[" + nested(12, "") + `,"\x"]`} {
		wantErrno(t, s, api.ErrText)
	}
}

// P3.1: ErrTwice, by what a name says and not by how it is written, and behind all others.
func TestTwice(t *testing.T) {
	for _, s := range []string{`{"a":1,"a":1}`, `{"a":1,"a":2}`, `{"a":1,"b":2,"a":3}`, `{"":1,"":2}`, `{"a":1,"\u0061":2}`, `{"\n":1,"\u000a":2}`, `{"/":1,"\/":2}`, "{\"\\ud83d\\ude00\":1,\"\U0001f600\":2}", `[{"a":{"b":1,"b":2}}]`, `{"a":{"b":1},"a":{"c":1}}`, `{"a":{"b":[1],"b":[1]},"c":1}`, `[{"a":1,"a":1},{}]`, nested(10, `{"a":1,"a":1}`)} {
		wantErrno(t, s, api.ErrTwice)
	}
	for _, s := range []string{`{"a":1,"a":2`, `{"a":1,"a":2}}`, `{"a":1,"a":x}`, `{"a":1,"a"}`, `{"a":1,"a":2,}`, `[{"a":1,"a":2},]`, `[{"a":1,"a":1},"\x"]`} {
		wantErrno(t, s, api.ErrText)
	}
	for _, s := range []string{`{"a":1,"a":` + nested(12, "") + "}", `[{"a":1,"a":2},` + nested(12, "") + "]", "[" + nested(12, "") + `,{"a":1,"a":2}]`, nested(12, `{"a":1,"a":2}`)} {
		wantErrno(t, s, api.ErrDeep)
	}
}

// P3.1: in all of these errors the one that is named first holds, in whatever order they stand.
func TestFirstError(t *testing.T) {
	bad := []struct {
		part  string
		errno api.Errno
	}{{"01", api.ErrText}, {nested(12, ""), api.ErrDeep}, {`{"a":1,"a":1}`, api.ErrTwice}, {"1", api.OK}}
	for i, a := range bad {
		for j, b := range bad {
			want := bad[min(i, j)].errno
			if _, errno := jread.Read("[" + a.part + "," + b.part + "]"); errno != want {
				t.Errorf("%s beside %s: %d", a.part, b.part, errno)
			}
		}
	}
}

// R3: no list of an answer has room that another one has, and no answer has what another one has.
func TestNewMemory(t *testing.T) {
	text := `[[1,2,3],[4,5,6],{"a":1,"b":2,"c":3},{"a":1}]`
	v, _ := jread.Read(text)
	other, _ := jread.Read(text)
	for i := range v.List {
		part := &v.List[i]
		_ = append(part.List, str("more"))
		_ = append(part.Names, "more")
		part.List[0] = str("new")
		if part.Kind == api.Obj {
			part.Names[0] = "new"
		}
	}
	if got, want := jval.Text(v), `[["new",2,3],["new",5,6],{"new":"new","b":2,"c":3},{"new":"new"}]`; got != want {
		t.Errorf("what was changed is %s", got)
	}
	if got := jval.Text(other); got != text {
		t.Errorf("what was not changed is %s", got)
	}
}
