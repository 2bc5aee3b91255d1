package value_test

import (
	"reflect"
	"strings"
	"testing"

	"refectory/api"
	"refectory/lex"
	"refectory/value"
)

type val = api.Value

var null = val{Kind: api.Null}

func whole(s string) val { return val{Kind: api.Int, S: s} }
func dec(s string) val   { return val{Kind: api.Dec, S: s} }
func str(s string) val   { return val{Kind: api.Str, S: s} }
func truth(s string) val { return val{Kind: api.Bool, S: s} }
func enum(s string) val  { return val{Kind: api.Enum, S: s} }
func vari(s string) val  { return val{Kind: api.Var, S: s} }
func row(l ...val) val   { return val{Kind: api.List, List: l} }

// obj has the names of a text with commas between, none of an empty one.
func obj(names string, l ...val) val {
	v := val{Kind: api.Obj, List: l}
	if names != "" {
		v.Names = strings.Split(names, ",")
	}
	return v
}

// inside is v within n lists.
func inside(n int, v val) val {
	for range n {
		v = row(v)
	}
	return v
}

func tokens(t *testing.T, s string) []lex.Token {
	t.Helper()
	l, at, errno := lex.All(s)
	if errno != api.OK {
		t.Fatalf("All(%.80q) is %d, %d", s, at, errno)
	}
	return l
}

// exact does not ask the package under test, and takes nil and an empty list for one.
func exact(a, b val) bool {
	if a.Kind != b.Kind || a.S != b.S || len(a.Names) != len(b.Names) || len(a.List) != len(b.List) {
		return false
	}
	for i := range a.Names {
		if a.Names[i] != b.Names[i] {
			return false
		}
	}
	for i := range a.List {
		if !exact(a.List[i], b.List[i]) {
			return false
		}
	}
	return true
}

// wantValue asks for a value that is the whole text, and for it inside of others.
func wantValue(t *testing.T, s string, want val) {
	t.Helper()
	l := tokens(t, s)
	if v, next, errno := value.Value(l, 0); errno != api.OK || next != len(l) || !exact(v, want) {
		t.Errorf("Value(%q) is %v, %d, %d, not %v", s, v, next, errno, want)
	}
	for _, around := range [][2]string{{"x ", ""}, {"", " y"}, {"x : ", " ]"}, {"[ {", " 1 }"}, {"$ ", " ("}, {"x ! ", " !"}} {
		ahead := tokens(t, around[0])
		l := tokens(t, around[0]+s+around[1])
		end := len(l) - len(tokens(t, around[1]))
		if v, next, errno := value.Value(l, len(ahead)); errno != api.OK || next != end || !exact(v, want) {
			t.Errorf("Value of %q in %v is %v, %d, %d", s, around, v, next, errno)
		}
	}
}

// wantErrno asks from place i on.
func wantErrno(t *testing.T, s string, i, wantAt int, want api.Errno) {
	t.Helper()
	v, at, errno := value.Value(tokens(t, s), i)
	if errno != want || at != wantAt || !reflect.DeepEqual(v, val{}) {
		t.Errorf("Value(%.80q, %d) is %v, %d, %d, not %d, %d", s, i, v, at, errno, wantAt, want)
	}
}

// P5.1, values of one token, and variables.
func TestValueOfLeaves(t *testing.T) {
	for s, want := range map[string]val{
		"1": whole("1"), "-0": whole("-0"), "1.50": dec("1.50"), "-1e+5": dec("-1e+5"),
		`""`: str(""), `"a\n\u0041"`: str("a\nA"), `"""
		  a
		"""`: str("a"), `"true"`: str("true"), `"$a"`: str("$a"), `"["`: str("["), `"]"`: str("]"), `"null"`: str("null"),
		"true": truth("true"), "false": truth("false"), "null": null,
		"RED": enum("RED"), "on": enum("on"), "True": enum("True"), "NULL": enum("NULL"), "nulls": enum("nulls"), "_": enum("_"), "truefalse": enum("truefalse"), "query": enum("query"),
		"$a": vari("a"), "$ a": vari("a"), "$true": vari("true"), "$null": vari("null"), "$on": vari("on"), "$\n,a": vari("a"),
	} {
		wantValue(t, s, want)
	}
}

// P5.1, lists and objects.
func TestValueOfParts(t *testing.T) {
	for s, want := range map[string]val{
		"[]": row(), "[1]": row(whole("1")), "[1 $a]": row(whole("1"), vari("a")), "[$a b]": row(vari("a"), enum("b")),
		"[[] [[]] {}]": row(row(), row(row()), obj("")), "[null true RED 1.5 \"a\"]": row(null, truth("true"), enum("RED"), dec("1.5"), str("a")),
		"{}": obj(""), "{a:1}": obj("a", whole("1")), "{a:$a b:b}": obj("a,b", vari("a"), enum("b")),
		"{b:1 a:2}": obj("b,a", whole("1"), whole("2")), "{a:1 a:2 a:1}": obj("a,a,a", whole("1"), whole("2"), whole("1")),
		"{true:false null:null on:on}":                              obj("true,null,on", truth("false"), null, enum("on")),
		"{a:{b:{}} c:[{d:$e}]}":                                     obj("a,c", obj("b", obj("")), row(obj("d", vari("e")))),
		strings.Repeat("[", 12) + strings.Repeat("]", 12):           inside(11, row()),
		strings.Repeat("[", 12) + "1 $a" + strings.Repeat("]", 12):  inside(11, row(whole("1"), vari("a"))),
		strings.Repeat("[", 11) + "{a:1}" + strings.Repeat("]", 11): inside(11, obj("a", whole("1"))),
	} {
		wantValue(t, s, want)
	}
	many := strings.Repeat("1 ", 3000)
	if v, next, errno := value.Value(tokens(t, "["+many+"]"), 0); len(v.List) != 3000 || next != 3002 || errno != api.OK {
		t.Errorf("a list of many: %d, %d, %d", len(v.List), next, errno)
	}
}

// P5.1, what is none.
func TestValueWrong(t *testing.T) {
	for s, at := range map[string]int{
		"": 0, "!": 0, "$": 1, "$1": 1, "$$a": 1, "$\"a\"": 1, "$[": 1, "]": 0, "}": 0, ":": 0, "...": 0, "(": 0, "@a": 0, "=": 0, "|": 0, "&": 0,
		"[": 1, "[1": 2, "[}": 1, "[1}": 2, "[1)": 2, "[$]": 2, "[a:1]": 2, "[[]": 3, "[[}]": 2, "[1 [2 :": 4,
		"{": 1, "{a": 2, "{a}": 2, "{a:": 3, "{a:}": 3, "{a:1": 4, "{a:1]": 4, "{a 1}": 2, "{1:2}": 1, "{\"a\":1}": 1, "{$a:1}": 1, "{[]:1}": 1, "{:1}": 1, "{a::1}": 3, "{a:1 2}": 4, "{a:1:": 4, "{a:$ b:1}": 5, "{a:{b}}": 5, "{a=1}": 2,
	} {
		wantErrno(t, s, 0, at, api.ErrText)
	}
}

// P5.1, the place: none below 0 and behind the end.
func TestValuePlace(t *testing.T) {
	const s = "a [ b c ] d"
	for i, next := range []int{1, 5, 3, 4, -1, 6} {
		if next < 0 {
			wantErrno(t, s, i, i, api.ErrText)
			continue
		}
		if _, got, errno := value.Value(tokens(t, s), i); got != next || errno != api.OK {
			t.Errorf("Value(%q, %d) is at %d, %d", s, i, got, errno)
		}
	}
	const least, most = -1 << 63, 1<<63 - 1
	for _, i := range []int{-1, -2, -6, -99, least, 6, 7, 99, most} {
		wantErrno(t, s, i, 6, api.ErrText)
		wantErrno(t, "", i, 0, api.ErrText)
	}
}

// P5.1, deeper than MaxDeep; of several errors the one that stands first.
func TestValueDeep(t *testing.T) {
	twelve := strings.Repeat("[", api.MaxDeep)
	for s, at := range map[string]int{
		twelve + "[": 12, twelve + "{": 12, twelve + "[]": 12, twelve + "{a:1}": 12, strings.Repeat("[", 5000): 12,
		twelve + "1 $a [ $": 15, twelve + "] [] [[": 16, strings.Repeat("{a:", 12) + "[": 36, strings.Repeat("{a:", 12) + "{}": 36,
		strings.Repeat("[{a:", 6) + "[": 24, twelve + "] ] [ [ ] {a:[ !": 20, twelve[1:] + "{a:[": 14,
	} {
		wantErrno(t, s, 0, at, api.ErrDeep)
	}
	for s, at := range map[string]int{
		twelve: 12, twelve + "!": 12, twelve + "$": 13, twelve + "$[": 13, twelve + "} [": 12, twelve + "1": 13, twelve + "]! [[": 13, twelve[1:] + "{[": 12,
	} {
		wantErrno(t, s, 0, at, api.ErrText)
	}
	// How deep a value stands among the tokens says nothing.
	wantErrno(t, "[[["+twelve+"[", 3, 15, api.ErrDeep)
	if _, next, errno := value.Value(tokens(t, "[[["+twelve+"1"+strings.Repeat("]", 12)), 3); next != 28 || errno != api.OK {
		t.Errorf("twelve within three: %d, %d", next, errno)
	}
}

// R3: lists that are answered are nobody else's.
func TestValueNewMemory(t *testing.T) {
	l := tokens(t, "{a:[1 2] b:[3]}")
	was := append([]lex.Token(nil), l...)
	first, _, _ := value.Value(l, 0)
	for _, part := range first.List {
		part.List = append(part.List, whole("9"))
		part.List[0] = null
	}
	first.Names[0], first.List[1] = "z", null
	again, _, _ := value.Value(l, 0)
	if want := obj("a,b", row(whole("1"), whole("2")), row(whole("3"))); !exact(again, want) || !reflect.DeepEqual(l, was) {
		t.Errorf("read again: %v of %v", again, l)
	}
}
