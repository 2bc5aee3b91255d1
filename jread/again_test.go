package jread_test

import (
	"encoding/json"
	"strings"
	"testing"

	"refectory/api"
	"refectory/jread"
	"refectory/jval"
)

// leaves are values of no parts.
func leaves() []value {
	return []value{
		null, yes, no,
		whole("0"), whole("-0"), whole("11"), dec("0.0"), dec("1E+0"), dec("-1.50e-2"),
		str(""), str("0"), str("null"), str("a"), str(`a","a`), str(`"`), str(`\`), str(`\"`), str("\n\x00\x7f"), str(`\n`), str("[]"), str("\ufffd\U0010ffff"),
		list(), obj(""),
	}
}

// grown is all of these, and lists and objects of one and of two of them.
func grown(parts []value) []value {
	all := append([]value{}, parts...)
	for _, a := range parts {
		all = append(all, list(a), obj("a", a), obj(`a":`, a), value{Kind: api.Obj, Names: []string{""}, List: []value{a}})
		for _, b := range parts {
			all = append(all, list(a, b), obj("a,b", a, b), obj("b,a", a, b), obj("\n,\\", a, b))
		}
	}
	return all
}

// P3.2: Read of Text is the value.
func TestReadOfText(t *testing.T) {
	few := []value{null, whole("1"), dec("1.0"), str(`"`), list(), obj(""), list(null, null), obj("a", yes)}
	all := append(grown(leaves()), grown(grown(few))...)
	all = append(all, inside(11, null), inside(11, list()), inside(10, obj("a", obj(""))), str(strings.Repeat("\u00e9", api.MaxText/2-1)))
	for _, v := range all {
		s := jval.Text(v)
		if got, errno := jread.Read(s); s == "" || errno != api.OK || !jval.Same(got, v) {
			t.Errorf("Read(%.60q) is %v, %d", s, got, errno)
		}
	}
	wantErrno(t, jval.Text(str(strings.Repeat("a", api.MaxText-1))), api.ErrBig)
}

// P3.2: Text of what is read is read as that.
func TestTextOfRead(t *testing.T) {
	for _, s := range []string{
		" 1 ", "-0", "1.50E+03", `"\u0041\/\ud83d\ude00"`, `"\u000a\u007F"`, "\"\x7f\"",
		"[ 1 ,\t2 ]", "{ }", `{ "\u0062" : 1 , "a" : [ { } , "\\" ] }`, nested(12, " "),
		`{"a":1.0,"b":1.00,"c":1e0}`, filled("[1]", api.MaxText),
	} {
		readAgain(t, s)
	}
}

// readAgain asks of any text what P3.2 says of one that is JSON.
func readAgain(t *testing.T, s string) {
	t.Helper()
	v, errno := jread.Read(s)
	if errno != api.OK {
		t.Errorf("Read(%q) is %d", s, errno)
		return
	}
	text := jval.Text(v)
	if len(text) > api.MaxText {
		return
	}
	again, errno := jread.Read(text)
	if text == "" || errno != api.OK || !jval.Same(again, v) {
		t.Errorf("%q, read, is %q, and that is %v, %d", s, text, again, errno)
	}
}

// decoded is what the library reads of a text that is JSON.
func decoded(s string) value {
	d := json.NewDecoder(strings.NewReader(s))
	d.UseNumber()
	return decodeNext(d)
}

func decodeNext(d *json.Decoder) value {
	token, err := d.Token()
	if err != nil {
		panic(err)
	}
	switch x := token.(type) {
	case bool:
		if x {
			return yes
		}
		return no
	case string:
		return str(x)
	case json.Number:
		if strings.ContainsAny(string(x), ".eE") {
			return dec(string(x))
		}
		return whole(string(x))
	case json.Delim:
		return decodeParts(d, x)
	}
	return null
}

func decodeParts(d *json.Decoder, begin json.Delim) value {
	v := list()
	if begin == '{' {
		v = obj("")
	}
	for d.More() {
		if begin == '{' {
			v.Names = append(v.Names, decodeNext(d).S)
		}
		v.List = append(v.List, decodeNext(d))
	}
	if _, err := d.Token(); err != nil {
		panic(err)
	}
	return v
}

// deepOf counts as jval's Check does.
func deepOf(v value) int {
	deep := 1
	for _, part := range v.List {
		deep = max(deep, 1+deepOf(part))
	}
	return deep
}

func hasTwice(v value) bool {
	seen := map[string]int{}
	for _, name := range v.Names {
		seen[name]++
		if seen[name] > 1 {
			return true
		}
	}
	for _, part := range v.List {
		if hasTwice(part) {
			return true
		}
	}
	return false
}

// expected is what the document asks for, by the library's reader. It knows nothing
// of texts that Unquote refuses and that the library takes, nor of long numbers.
func expected(s string) (value, api.Errno) {
	if len(s) > api.MaxText {
		return value{}, api.ErrBig
	}
	if !json.Valid([]byte(s)) {
		return value{}, api.ErrText
	}
	v := decoded(s)
	if deepOf(v) > api.MaxDeep {
		return value{}, api.ErrDeep
	}
	if hasTwice(v) {
		return value{}, api.ErrTwice
	}
	return v, api.OK
}

func holdAgainst(t *testing.T, s string) {
	t.Helper()
	want, wantErrno := expected(s)
	got, errno := jread.Read(s)
	if errno != wantErrno || !jval.Same(got, want) {
		t.Errorf("Read(%q) is %v, %d, not %v, %d", s, got, errno, want, wantErrno)
	}
	if errno == api.OK {
		readAgain(t, s)
	}
}

// eachText calls f with every text of at most n of the parts.
func eachText(parts []string, n int, f func(string)) {
	var grow func(string, int)
	grow = func(s string, left int) {
		f(s)
		if left == 0 {
			return
		}
		for _, p := range parts {
			grow(s+p, left-1)
		}
	}
	grow("", n)
}

// P3.1, P3.2: texts of signs, of whatever order.
func TestEachShortText(t *testing.T) {
	for _, c := range []struct {
		most  int
		parts []string
	}{
		{6, []string{"[", "]", "{", "}", ",", ":", `"a"`, "1", " "}},
		{5, []string{"[", "]", ",", "null", "true", "-", "0", "."}},
		{6, []string{"-", "+", "0", "1", ".", "e", "E", " "}},
		{5, []string{`"`, `\`, "u", "0061", "n", "a", "/", " ", "\n", "\x01"}},
	} {
		eachText(c.parts, c.most, func(s string) { holdAgainst(t, s) })
	}
}

// P3.1, P3.2: each text that is one sign away from one that is JSON.
func TestOneSignOff(t *testing.T) {
	good := `{"a" : [1, -2.5e+3, "x\"\\\u00e9y", null], "b":{"a":true,"":false}, "c":[[],{}, [[[[[[[[[[]]]]]]]]]]]}`
	holdAgainst(t, good)
	for i := range len(good) + 1 {
		holdAgainst(t, good[:i])
		for _, sign := range "[]{},:\"\\01-+.eEntfu \n\tabx/" {
			holdAgainst(t, good[:i]+string(sign)+good[i:])
			if i < len(good) {
				holdAgainst(t, good[:i]+string(sign)+good[i+1:])
			}
		}
		if i < len(good) {
			holdAgainst(t, good[:i]+good[i+1:])
		}
	}
}

// R1, R2: no bytes make Read panic, and what it takes is a value that may be.
func FuzzRead(f *testing.F) {
	for _, s := range []string{"", " [1 , \"a\"] ", `{"a":1,"a":2}`, nested(13, ""), `"\ud800"`, "\"\xff\"", "-1.50E+2", strings.Repeat("[", 4000)} {
		f.Add(s)
	}
	f.Fuzz(func(t *testing.T, s string) {
		v, errno := jread.Read(s)
		switch {
		case errno == api.OK && !jval.Check(v):
			t.Errorf("Read(%q) is %v", s, v)
		case errno == api.OK:
			readAgain(t, s)
		case !jval.Same(v, value{}):
			t.Errorf("Read(%q) is %v beside %d", s, v, errno)
		}
		if (errno == api.OK || errno == api.ErrDeep || errno == api.ErrTwice) && !json.Valid([]byte(s)) {
			t.Errorf("Read(%q) is %d", s, errno)
		}
	})
}
