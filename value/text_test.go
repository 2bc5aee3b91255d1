package value_test

import (
	"strings"
	"testing"

	"refectory/api"
	"refectory/value"
)

// P5.3, Text.
func TestText(t *testing.T) {
	for want, v := range map[string]val{
		"null": null, "true": truth("true"), "false": truth("false"), "-12": whole("-12"), "1.50E+2": dec("1.50E+2"), "RED": enum("RED"), "on": enum("on"), "$a": vari("a"), "$true": vari("true"),
		`""`: str(""), `"a\n\"\\\u0000\u007f"`: str("a\n\"\\\x00\x7f"), "\"\u00e9/\"": str("\u00e9/"),
		"[]": row(), "[1]": row(whole("1")), "[1 $a []]": row(whole("1"), vari("a"), row()), "[\"a\" \"b\"]": row(str("a"), str("b")),
		"{}": obj(""), "{a:1}": obj("a", whole("1")), "{b:1 a:{c:$d}}": obj("b,a", whole("1"), obj("c", vari("d"))), "{a:1 a:2 null:null}": obj("a,a,null", whole("1"), whole("2"), null),
		"{a:[] b:[{} 1]}": obj("a,b", row(), row(obj(""), whole("1"))),
		strings.Repeat("[", 12) + "1" + strings.Repeat("]", 12):        inside(12, whole("1")),
		strings.Repeat("[", 12) + strings.Repeat("]", 12):              inside(11, row()),
		strings.Repeat("[", 11) + "{a:\"\"}" + strings.Repeat("]", 11): inside(11, obj("a", str(""))),
		strings.Repeat("9", api.MaxName):                               whole(strings.Repeat("9", api.MaxName)),
		"$" + strings.Repeat("v", api.MaxName):                         vari(strings.Repeat("v", api.MaxName)),
	} {
		if got := value.Text(v); got != want {
			t.Errorf("Text(%v) is %q, not %q", v, got, want)
		}
	}
}

// unreadable are values that no tokens of a text make.
func unreadable() []val {
	long := strings.Repeat("9", api.MaxName+1)
	name := strings.Repeat("a", api.MaxName+1)
	return []val{
		{}, {Kind: -1, S: "a"}, {Kind: 10, S: "a"}, {S: "a"},
		{Kind: api.Null, S: "null"}, {Kind: api.Null, Names: []string{"a"}}, {Kind: api.Null, List: []val{null}},
		truth(""), truth("True"), truth("null"), truth("a"), truth("1"), truth("true "),
		whole(""), whole("01"), whole("1.0"), whole("1e1"), whole("+1"), whole(" 1"), whole("a"), whole(long), {Kind: api.Int, S: "1", List: []val{null}},
		dec(""), dec("1"), dec("1."), dec(".5"), dec("1.0 "), dec("1." + long), {Kind: api.Dec, S: "1.0", Names: []string{"a"}},
		str("\xff"), str("\xed\xa0\x80"), {Kind: api.Str, List: []val{null}}, {Kind: api.Str, Names: []string{"a"}},
		enum(""), enum("true"), enum("false"), enum("null"), enum("9"), enum("a b"), enum("$a"), enum(name), enum("\u00e9"), {Kind: api.Enum, S: "a", Names: []string{"a"}},
		vari(""), vari("9"), vari("$a"), vari("a "), vari(name), {Kind: api.Var, S: "a", List: []val{null}},
		{Kind: api.List, S: "x"}, {Kind: api.List, Names: []string{"a"}}, {Kind: api.List, Names: []string{"a"}, List: []val{null}},
		{Kind: api.Obj, S: "x"}, obj("a"), obj("", null), obj("a,b", null), obj("a", null, null), obj("9", null), obj("a b", null), obj("a,", null, null), obj(name, null), obj("a:b", null),
		row(val{}), row(null, enum("true")), obj("a", val{}), row(row(row(str("\xff")))), obj("a,b", null, obj("9", null)),
		inside(13, null), inside(12, row()), inside(12, obj("")), inside(100000, null), row(null, inside(12, null)),
	}
}

// P5.3: of a value that Value could not read, nothing; not even where a part of it is such.
func TestTextOfOthers(t *testing.T) {
	for i, v := range unreadable() {
		for _, of := range []val{v, row(v), obj("a", v), row(null, v, null)} {
			if got := value.Text(of); got != "" {
				t.Errorf("Text of the other one %d is %q", i, got)
			}
		}
	}
}

// R3: nil and an empty list are one.
func TestTextOfEmptyLists(t *testing.T) {
	for want, v := range map[string]val{
		"1":  {Kind: api.Int, S: "1", Names: []string{}, List: []val{}},
		"[]": {Kind: api.List, Names: []string{}, List: []val{}},
		"{}": {Kind: api.Obj, Names: []string{}, List: []val{}},
	} {
		if got := value.Text(v); got != want {
			t.Errorf("Text(%v) is %q", v, got)
		}
	}
}
