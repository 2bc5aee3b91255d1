package jval_test

import (
	"encoding/json"
	"strings"
	"testing"

	"refectory/api"
	"refectory/jval"
	"refectory/runes"
)

// P2.1, Text.
func TestText(t *testing.T) {
	for want, v := range map[string]value{
		"null":                     null,
		"true":                     yes,
		"false":                    no,
		"-0":                       whole("-0"),
		"12":                       whole("12"),
		"1.50E+03":                 dec("1.50E+03"),
		`""`:                       str(""),
		`"a\n\"\\\u007f/"`:         str("a\n\"\\\x7f/"),
		"\"\u00e9\"":               str("\u00e9"),
		`"null"`:                   str("null"),
		"[]":                       list(),
		"[null]":                   list(null),
		"[[]]":                     list(list()),
		"[1,2]":                    list(whole("1"), whole("2")),
		`[1,[true,{}],"",{"a":0}]`: list(whole("1"), list(yes, obj("")), str(""), obj("a", whole("0"))),
		"{}":                       obj(""),
		`{"a":1}`:                  obj("a", whole("1")),
		`{"b":1,"a":[2,3]}`:        obj("b,a", whole("1"), list(whole("2"), whole("3"))),
		`{"a":{"a":{"a":null}}}`:   insideObj(3, null),
		`{"\"\t\\":1}`:             obj("\"\t\\", whole("1")),
		`{"":1,"a":2}`:             obj(",a", whole("1"), whole("2")),
		strings.Repeat("[", api.MaxDeep) + strings.Repeat("]", api.MaxDeep): inside(api.MaxDeep-1, list()),
	} {
		if got := jval.Text(v); got != want {
			t.Errorf("Text is %q, not %q", got, want)
		}
	}
}

// P2.1: of what is none, the text is empty. (More of these: TestCheckRefuses.)
func TestTextOfNone(t *testing.T) {
	for i, v := range []value{{}, {Kind: api.Enum, S: "A"}, {Kind: api.Var, S: "a"}, str("\xff"), whole("01"), list(null, value{}), obj("a,a", null, null), inside(api.MaxDeep, null)} {
		if got := jval.Text(v); got != "" {
			t.Errorf("%d: Text is %q", i, got)
		}
	}
}

// leaves are values of no parts, alike in all but one thing.
func leaves() []value {
	return []value{
		null, yes, no,
		whole("0"), whole("-0"), whole("1"), whole("11"), dec("0.0"), dec("1.0"), dec("1e0"), dec("1E0"), dec("1e+0"), dec("1.00"),
		str(""), str("0"), str("null"), str("true"), str("a"), str(","), str(`a","a`), str(`"`), str(`\`), str(`\"`), str("\n"), str(`\n`), str("[]"), str("{}"), str("\ufffd"),
		list(), obj(""),
	}
}

// grown is all of these, and lists and objects of one and of two of them.
func grown(parts []value) []value {
	all := append([]value{}, parts...)
	for _, a := range parts {
		all = append(all, list(a), obj("a", a), obj(`a":`, a), value{Kind: api.Obj, Names: []string{""}, List: []value{a}})
		for _, b := range parts {
			all = append(all, list(a, b), obj("a,b", a, b), obj("b,a", a, b), obj(`",":`, a, b), obj("b,", a, b))
		}
	}
	return all
}

// P2.3, and that each text is JSON without blanks.
func TestUnlikeTexts(t *testing.T) {
	few := []value{null, whole("1"), str(""), list(), obj(""), list(null), list(null, null), obj("a", null), obj("a", whole("1"))}
	of := map[string]value{}
	for _, v := range append(grown(leaves()), grown(grown(few))...) {
		s := jval.Text(v)
		if jval.Check(v) != (s != "") {
			t.Errorf("Check and Text (%q) of %v", s, v)
		}
		if s == "" {
			continue
		}
		if !json.Valid([]byte(s)) {
			t.Errorf("%q is no JSON", s)
		}
		if w, there := of[s]; there && !jval.Same(v, w) {
			t.Errorf("%v and %v have one text, %q", v, w, s)
		}
		of[s] = v
	}
}

// P2.3 of the texts inside: every code point, as a value and as a name.
func TestTextOfEachPoint(t *testing.T) {
	for c := rune(0); c < 0x3000; c++ {
		q := runes.Quote(string(c))
		if got := jval.Text(list(str(string(c)))); got != "["+q+"]" {
			t.Errorf("%U: Text is %q", c, got)
		}
		if got := jval.Text(value{Kind: api.Obj, Names: []string{string(c)}, List: []value{null}}); got != "{"+q+":null}" {
			t.Errorf("%U: Text is %q", c, got)
		}
	}
}

// R1: many parts, too, come to an end soon.
func TestTextOfMuch(t *testing.T) {
	v := list()
	for range 1 << 18 {
		v.List = append(v.List, whole("1"))
	}
	if got, want := jval.Text(v), "["+strings.Repeat("1,", 1<<18-1)+"1]"; got != want {
		t.Errorf("a text of %d bytes, not %d", len(got), len(want))
	}
}
