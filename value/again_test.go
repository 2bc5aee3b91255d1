package value_test

import (
	"strings"
	"testing"

	"refectory/api"
	"refectory/lex"
	"refectory/value"
)

// expected goes through tokens by a stack of what is open, and writes each as it
// was written: the text of the value that stands at the front, or where it ends.
func expected(l []lex.Token) (string, int, api.Errno) {
	text, open, want := "", "", "value"
	put := func(s string) {
		if text != "" && !strings.ContainsAny(text[len(text)-1:], "[{:$") && !strings.Contains("]}:", s) {
			text += " "
		}
		text += s
	}
	for i, token := range l {
		over := false
		s := token.S
		if token.Kind == lex.Str {
			s = `"` + s + `"`
		}
		sign := token.Kind == lex.Sign
		switch {
		case want == "name" && token.Kind == lex.Name:
			put(s)
			over = true
		case want == "colon" && sign && s == ":":
			put(s)
			want = "value"
		case want == "key" && token.Kind == lex.Name:
			put(s)
			want = "colon"
		case want == "key" && sign && s == "}", want == "item" && sign && s == "]":
			put(s)
			open = open[:len(open)-1]
			over = true
		case (want == "value" || want == "item") && !sign:
			put(s)
			over = true
		case (want == "value" || want == "item") && s == "$":
			put(s)
			want = "name"
		case (want == "value" || want == "item") && (s == "[" || s == "{"):
			if len(open) == api.MaxDeep {
				return "", i, api.ErrDeep
			}
			put(s)
			open += s
			want = map[string]string{"[": "item", "{": "key"}[s]
		default:
			return "", i, api.ErrText
		}
		switch {
		case over && open == "":
			return text, i + 1, api.OK
		case over && strings.HasSuffix(open, "["):
			want = "item"
		case over:
			want = "key"
		}
	}
	return "", len(l), api.ErrText
}

// holdAgainst tells whether more tokens could turn the answer.
func holdAgainst(t *testing.T, l []lex.Token) bool {
	t.Helper()
	text, wantAt, want := expected(l)
	v, at, errno := value.Value(l, 0)
	if got := value.Text(v); errno != want || at != wantAt || got != text {
		t.Errorf("Value(%v) is %q, %d, %d, not %q, %d, %d", l, got, at, errno, text, wantAt, want)
	}
	return errno == api.ErrText && at == len(l)
}

// P5.1, P5.3: tokens of whatever order.
func TestEachShortRow(t *testing.T) {
	parts := tokens(t, `[ ] { } : $ a 1 "s" null !`)
	var grow func(l []lex.Token, left int)
	grow = func(l []lex.Token, left int) {
		open := holdAgainst(t, l)
		if left == 0 || !open && left < 6 {
			return
		}
		for _, part := range parts {
			grow(append(l[:len(l):len(l)], part), left-1)
		}
	}
	grow(nil, 7)
	ahead := tokens(t, strings.Repeat("[{a:", 5)+"[")
	grow(ahead, 5)
	grow(append(ahead, parts[0]), 4)
}

// P5.1, R1: tokens that lex never makes.
func TestOddTokens(t *testing.T) {
	for _, kind := range []int{-1, 0, 6, 99} {
		for _, s := range []string{"", "a", "1", "[", "$"} {
			v, at, errno := value.Value([]lex.Token{{Kind: kind, S: s}}, 0)
			if !exact(v, val{}) || at != 0 || errno != api.ErrText {
				t.Errorf("a token of kind %d: %v, %d, %d", kind, v, at, errno)
			}
			if x, next, ok := value.Type([]lex.Token{{Kind: kind, S: s}}, 0); x != (api.Type{}) || next != 0 || ok {
				t.Errorf("a token of kind %d as a type: %v, %d, %v", kind, x, next, ok)
			}
		}
	}
	for _, kind := range []int{lex.Name, lex.Int, lex.Dec, lex.Str} {
		if v, next, errno := value.Value([]lex.Token{{Kind: kind, S: "["}}, 0); v.S != "[" || next != 1 || errno != api.OK {
			t.Errorf("[ of kind %d: %v, %d, %d", kind, v, next, errno)
		}
	}
	if v, next, errno := value.Value([]lex.Token{{Kind: lex.Sign, S: "[["}}, 0); !exact(v, val{}) || next != 0 || errno != api.ErrText {
		t.Errorf("a sign that is none: %v, %d, %d", v, next, errno)
	}
}

// leaves are values of no parts.
func leaves() []val {
	return []val{
		null, truth("true"), truth("false"), enum("a"), enum("on"), enum("e1"), vari("a"), vari("true"), vari("null"), vari(strings.Repeat("v", api.MaxName)),
		whole("0"), whole("-0"), whole("12"), dec("0.0"), dec("-1E+5"), dec("1e5"),
		str(""), str("a"), str(`"`), str(`\`), str(`"""`), str("#"), str("\n\r\t\x00\x7f"), str("\u00e9\ufffd\U0010ffff"), str("$a"), str("null"),
		row(), obj(""),
	}
}

// grown is all of these, and lists and objects of one and of two of them.
func grown(parts []val) []val {
	all := append([]val{}, parts...)
	for _, a := range parts {
		all = append(all, row(a), obj("a", a), obj("null", a))
		for _, b := range parts {
			all = append(all, row(a, b), obj("a,b", a, b), obj("b,a", a, b), obj("a,a", a, b))
		}
	}
	return all
}

// P5.4: Text is read as that value.
func TestValueOfText(t *testing.T) {
	few := []val{null, whole("-1"), str(""), vari("a"), row(), obj(""), row(enum("b"), dec("1.5")), obj("a,a", vari("b"), truth("true"))}
	all := append(grown(leaves()), grown(grown(few))...)
	all = append(all, inside(12, whole("1")), inside(11, obj("a,b", vari("a"), str("x"))), inside(11, row()))
	for _, v := range all {
		s := value.Text(v)
		l := tokens(t, s)
		if got, next, errno := value.Value(l, 0); s == "" || errno != api.OK || next != len(l) || !exact(got, v) {
			t.Errorf("Value(%q) is %v, %d, %d, not %v", s, got, next, errno, v)
		}
	}
}

// R1: no text makes a call panic, and what is read is written and read as that.
func FuzzValue(f *testing.F) {
	for _, s := range []string{"", "[1 $a]", "{a:1 a:{b:[]}}", strings.Repeat("[", 13), "$", "{a:", `"\n"`, "[[A!]!]!"} {
		f.Add(s, 0)
		f.Add("x "+s, 1)
	}
	f.Fuzz(func(t *testing.T, s string, i int) {
		l, _, _ := lex.All(s)
		if x, next, ok := value.Type(l, i); ok != value.CheckType(x) || !ok && next != i {
			t.Errorf("Type(%q, %d) is %v, %d, %v", s, i, x, next, ok)
		}
		v, next, errno := value.Value(l, i)
		if next < 0 || next > len(l) || errno != api.OK && !exact(v, val{}) {
			t.Errorf("Value(%q, %d) is %v, %d, %d", s, i, v, next, errno)
		}
		if errno != api.OK {
			return
		}
		text := value.Text(v)
		again, _, errno := value.Value(tokens(t, text), 0)
		if errno != api.OK || !exact(again, v) || !value.Same(again, v) {
			t.Errorf("%q, read, is %q, and that is %v", s, text, again)
		}
	})
}
