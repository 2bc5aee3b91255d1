package value_test

import (
	"regexp"
	"strings"
	"testing"

	"refectory/api"
	"refectory/lex"
	"refectory/value"
)

func listsOf(n int, s, end string) string {
	return strings.Repeat("[", n) + s + strings.Repeat("]"+end, n)
}

// P5.2, Type; CheckType and TypeText of what it reads.
func TestType(t *testing.T) {
	long := strings.Repeat("T", api.MaxName)
	for s, want := range map[string]api.Type{
		"A": {Name: "A"}, "A!": {Name: "A", Wraps: "!"}, "[A]": {Name: "A", Wraps: "]"}, "[A!]": {Name: "A", Wraps: "!]"}, "[A]!": {Name: "A", Wraps: "]!"},
		"[ A ! ] !": {Name: "A", Wraps: "!]!"}, "[[A]!]": {Name: "A", Wraps: "]!]"}, "[[A!]]!": {Name: "A", Wraps: "!]]!"},
		"true": {Name: "true"}, "null!": {Name: "null", Wraps: "!"}, "on": {Name: "on"}, "_": {Name: "_"}, long: {Name: long},
		listsOf(12, "A", ""):       {Name: "A", Wraps: strings.Repeat("]", 12)},
		listsOf(12, "A!", "!"):     {Name: "A", Wraps: "!" + strings.Repeat("]!", 12)},
		"[,A#]\n]":                 {Name: "A", Wraps: "]"},
		listsOf(12, long, "!\n,"):  {Name: long, Wraps: strings.Repeat("]!", 12)},
		listsOf(3, "Int", "") + "": {Name: "Int", Wraps: "]]]"},
	} {
		for _, around := range [][2]string{{"", ""}, {"x:", ""}, {"[[(", ")"}, {"", "]!"}, {"a! ", " = 1"}, {"", " x"}} {
			l := tokens(t, around[0]+s+around[1])
			begin, end := len(tokens(t, around[0])), len(l)-len(tokens(t, around[1]))
			got, next, ok := value.Type(l, begin)
			if got != want || next != end || !ok || !value.CheckType(got) {
				t.Errorf("Type of %q in %v is %v, %d, %v", s, around, got, next, ok)
			}
		}
		bare := strings.NewReplacer(" ", "", ",", "", "\n", "", "#]", "").Replace(s)
		if got := value.TypeText(want); got != bare {
			t.Errorf("TypeText(%v) is %q", want, got)
		}
	}
	if got, next, ok := value.Type(tokens(t, "A!!"), 0); got.Wraps != "!" || next != 2 || !ok {
		t.Errorf("behind one ! all is somebody else's: %v, %d, %v", got, next, ok)
	}
}

// P5.2, what is none: zero, the place that was asked, false.
func TestTypeWrong(t *testing.T) {
	for _, s := range []string{
		"", "!", "[", "]", "[]", "[A", "[A!", "[A!!]", "[!A]", "!A", "[[A]", "[A)", "[A}", "[A B]", "[A:]", "1", "\"A\"", "$A", "{A}", "(", "...", "[1]", "[\"A\"]", "[[]]",
		listsOf(13, "A", ""), listsOf(3000, "A", ""), strings.Repeat("[", 13), strings.Repeat("[", 12), listsOf(12, "A", "")[:24], listsOf(13, "A", "!"),
	} {
		for at, ahead := range []string{"", "x ", "x ! "} {
			if got, next, ok := value.Type(tokens(t, ahead+s), at); got != (api.Type{}) || next != at || ok {
				t.Errorf("Type(%.40q) is %v, %d, %v", ahead+s, got, next, ok)
			}
		}
	}
	const least, most = -1 << 63, 1<<63 - 1
	for _, i := range []int{-1, -3, least, 3, 4, 99, most} {
		if got, next, ok := value.Type(tokens(t, "A B C"), i); got != (api.Type{}) || next != i || ok {
			t.Errorf("at %d: %v, %d, %v", i, got, next, ok)
		}
		if got, next, ok := value.Type(nil, i); got != (api.Type{}) || next != i || ok {
			t.Errorf("of nothing at %d: %v, %d, %v", i, got, next, ok)
		}
	}
}

// Three lists are as many as these tests have.
var typeForms = []*regexp.Regexp{
	regexp.MustCompile(`^A(!?)`),
	regexp.MustCompile(`^\[A(!?\]!?)`),
	regexp.MustCompile(`^\[\[A(!?\]!?\]!?)`),
	regexp.MustCompile(`^\[\[\[A(!?\]!?\]!?\]!?)`),
}

// typeFront is the type at the front of tokens, written side by side; 0: none.
func typeFront(l []lex.Token) (api.Type, int, bool) {
	text := ""
	for _, token := range l {
		text += token.S
	}
	for _, form := range typeForms {
		if m := form.FindStringSubmatch(text); m != nil {
			return api.Type{Name: "A", Wraps: m[1]}, len(m[0]), true
		}
	}
	return api.Type{}, 0, false
}

// P5.2: tokens of whatever order.
func TestEachShortTypeRow(t *testing.T) {
	parts := tokens(t, "[ ] ! A $")
	var grow func(l []lex.Token, left int)
	grow = func(l []lex.Token, left int) {
		want, wantNext, wantOk := typeFront(l)
		if got, next, ok := value.Type(l, 0); got != want || next != wantNext || ok != wantOk {
			t.Errorf("Type(%v) is %v, %d, %v, not %v, %d, %v", l, got, next, ok, want, wantNext, wantOk)
		}
		if left == 0 || wantOk && wantNext < len(l) {
			return
		}
		for _, part := range parts {
			grow(append(l[:len(l):len(l)], part), left-1)
		}
	}
	grow(nil, 7)
}

// P5.2, CheckType and TypeText: each of Wraps that may be, and others.
func TestEachShortWraps(t *testing.T) {
	may := regexp.MustCompile(`^!?(\]!?)*$`)
	var grow func(wraps string, left int)
	grow = func(wraps string, left int) {
		x := api.Type{Name: "A", Wraps: wraps}
		want := ""
		if may.MatchString(wraps) {
			want = strings.Repeat("[", strings.Count(wraps, "]")) + "A" + wraps
		}
		if got := value.TypeText(x); got != want || value.CheckType(x) != (want != "") {
			t.Errorf("TypeText(%v) is %q, CheckType %v", x, got, value.CheckType(x))
		}
		if left == 0 {
			return
		}
		for _, part := range []string{"!", "]", "[", " ", "\x00", "\xff"} {
			grow(wraps+part, left-1)
		}
	}
	grow("", 6)
}

func TestCheckTypeEdges(t *testing.T) {
	for _, x := range []api.Type{
		{Name: "A", Wraps: strings.Repeat("]", 12)}, {Name: "A", Wraps: "!" + strings.Repeat("]!", 12)}, {Name: strings.Repeat("A", api.MaxName)}, {Name: "_9"}, {Name: "null"},
	} {
		l := tokens(t, value.TypeText(x))
		if got, next, ok := value.Type(l, 0); !value.CheckType(x) || got != x || next != len(l) || !ok {
			t.Errorf("%v is read as %v, %d, %v", x, got, next, ok)
		}
	}
	for _, x := range []api.Type{
		{}, {Wraps: "!"}, {Name: "9"}, {Name: "a b"}, {Name: "\u00e9"}, {Name: "A!"}, {Name: "[A]"}, {Name: strings.Repeat("A", api.MaxName+1)}, {Name: "\xff"},
		{Name: "A", Wraps: strings.Repeat("]", 13)}, {Name: "A", Wraps: strings.Repeat("]!", 13)}, {Name: "A", Wraps: strings.Repeat("]", 5000)},
		{Name: "A", Wraps: "!!"}, {Name: "A", Wraps: "]!!"}, {Name: "A", Wraps: "]!!]"}, {Name: "A", Wraps: "]x]"}, {Name: "A", Wraps: "]A"}, {Name: "A", Wraps: "\u00e9"},
	} {
		if value.CheckType(x) || value.TypeText(x) != "" {
			t.Errorf("%v may not be: %q", x, value.TypeText(x))
		}
	}
}
