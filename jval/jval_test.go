package jval_test

import (
	"reflect"
	"strings"
	"testing"

	"refectory/api"
	"refectory/jval"
)

type value = api.Value

var (
	null = value{Kind: api.Null}
	yes  = value{Kind: api.Bool, S: "true"}
	no   = value{Kind: api.Bool, S: "false"}
)

func whole(s string) value { return value{Kind: api.Int, S: s} }

func dec(s string) value { return value{Kind: api.Dec, S: s} }

func str(s string) value { return value{Kind: api.Str, S: s} }

func list(parts ...value) value { return value{Kind: api.List, List: parts} }

// obj has its names parted by commas; the empty text is no name at all.
func obj(names string, parts ...value) value {
	v := value{Kind: api.Obj, List: parts}
	if names != "" {
		v.Names = strings.Split(names, ",")
	}
	return v
}

// inside is a value with n lists around it.
func inside(n int, v value) value {
	for range n {
		v = list(v)
	}
	return v
}

// insideObj is a value with n objects around it.
func insideObj(n int, v value) value {
	for range n {
		v = obj("a", v)
	}
	return v
}

func with(v value, change func(*value)) value {
	change(&v)
	return v
}

// P2.1, Check: what JSON has.
func TestCheck(t *testing.T) {
	longest := strings.Repeat("9", api.MaxName)
	for i, v := range []value{
		null, yes, no,
		whole("0"), whole("-0"), whole("-12"), whole(longest),
		dec("0.5"), dec("-1.50"), dec("1e5"), dec("1E+05"), dec("0." + longest[2:]),
		str(""), str("a"), str("\x00\n\"\\"), str("\u00e9\ufffd\U0010ffff"), str(strings.Repeat("a", api.MaxText+1)),
		str("true"), str("1"), str("null"),
		list(), list(null), list(null, null), list(whole("1"), str("a"), list(), obj("")),
		obj(""), obj("a", null), obj("a,b", null, null), obj("b,a", whole("1"), list()),
		obj("\u00e9,\n", null, null), obj(",a", null, null), obj("a,A", null, null),
		{Kind: api.Obj, Names: []string{""}, List: []value{null}},
		obj(strings.Repeat("a", api.MaxName+1), null),
		{Kind: api.List, Names: []string{}, List: []value{}},
		{Kind: api.Null, Names: []string{}, List: []value{}},
		obj("a,b", obj("a,b", null, null), obj("a,b", null, null)), // names are one object's own
	} {
		if !jval.Check(v) {
			t.Errorf("%d: Check says no to %v", i, v)
		}
	}
}

// P2.1, Check: what JSON has not.
func TestCheckRefuses(t *testing.T) {
	name := func(v *value) { v.Names = []string{"a"} }
	part := func(v *value) { v.List = []value{null} }
	pair := func(v *value) { name(v); part(v) }
	text := func(v *value) { v.S = "a" }
	wrong := []value{
		{}, {S: "a"}, {Kind: api.Enum, S: "a"}, {Kind: api.Var, S: "a"}, {Kind: 10}, {Kind: -1}, {Kind: -8}, {Kind: 1 << 32},
		with(null, text), {Kind: api.Null, S: "null"},
		{Kind: api.Bool}, {Kind: api.Bool, S: "True"}, {Kind: api.Bool, S: "true "}, {Kind: api.Bool, S: "1"}, {Kind: api.Bool, S: "null"},
		whole(""), whole("a"), whole("01"), whole("1.5"), whole("1e5"), whole("+1"), whole(strings.Repeat("9", api.MaxName+1)),
		dec(""), dec("a"), dec("1"), dec("-0"), dec("1."), dec(".5"), dec("1e"), dec("0." + strings.Repeat("9", api.MaxName-1)),
		str("\xff"), str("a\xed\xa0\x80"), str("\xc0\x80"),
		with(list(), text), with(list(), name), with(list(null), name),
		with(obj(""), text), with(obj("a", null), text),
		obj("a"), obj("", null), obj("a,b", null), obj("a", null, null),
		obj("a,a", null, null), obj("a,b,a", null, whole("1"), str("")), obj(",", null, null),
		obj("\xff", null), obj("a,b\xc3", null, null),
	}
	for _, v := range []value{null, yes, no, whole("1"), dec("1.5"), str("a"), str("")} {
		wrong = append(wrong, with(v, name), with(v, part), with(v, pair))
	}
	for i, v := range wrong {
		for k, w := range []value{v, list(v), list(null, v, null), obj("a", v), obj("a,b", list(null), list(null, v))} {
			if jval.Check(w) {
				t.Errorf("%d, %d: Check says yes to %v", i, k, w)
			}
			if got := jval.Text(w); got != "" {
				t.Errorf("%d, %d: Text is %q", i, k, got)
			}
		}
	}
}

// P2.1: at most MaxDeep deep, one of no parts being 1.
func TestCheckDepth(t *testing.T) {
	for _, leaf := range []value{null, yes, whole("1"), dec("1.5"), str("a"), list(), obj("")} {
		for n := range api.MaxDeep + 5 {
			for _, v := range []value{inside(n, leaf), insideObj(n, leaf)} {
				want := n+1 <= api.MaxDeep
				if got := jval.Check(v); got != want {
					t.Errorf("%d around %v: Check is %v", n, leaf, got)
				}
				if got := jval.Text(v); (got != "") != want {
					t.Errorf("%d around %v: Text is %q", n, leaf, got)
				}
			}
		}
	}
	deepest := inside(api.MaxDeep-2, null)
	for _, v := range []value{list(null, deepest), list(deepest, null), list(deepest, deepest), obj("a,b", null, deepest)} {
		if !jval.Check(v) {
			t.Errorf("Check says no to %v", v)
		}
	}
	for _, v := range []value{list(null, list(deepest)), list(list(deepest), null), obj("a,b", deepest, obj("a", deepest))} {
		if jval.Check(v) {
			t.Errorf("Check says yes to %v", v)
		}
	}
}

// R1: whatever is handed in, and however much of it.
func TestCheckOfMuch(t *testing.T) {
	if v := inside(1<<20, null); jval.Check(v) || jval.Text(v) != "" {
		t.Error("a value that is far too deep")
	}
	around := list(null)
	around.List[0] = around
	if jval.Check(around) || jval.Text(around) != "" {
		t.Error("a list that is in itself")
	}
	many := value{Kind: api.Obj}
	for i := range 1 << 17 {
		many.Names = append(many.Names, "a"+strings.Repeat("b", i%7)+string(rune(0x10000+i)))
		many.List = append(many.List, null)
	}
	if !jval.Check(many) {
		t.Error("an object of many names")
	}
	many.Names[1<<17-1] = many.Names[0]
	if jval.Check(many) {
		t.Error("an object of many names, one of them twice")
	}
}

// R3: what is handed in stays as it is.
func TestNothingIsChanged(t *testing.T) {
	build := func() value {
		return obj("b,a,b", list(whole("2"), obj("x,a", null, str("b"))), obj("a", list(yes)), dec("1.5"))
	}
	v, w := build(), build()
	jval.Check(v)
	jval.Text(v)
	jval.Same(v, w)
	jval.Get(v, "b")
	if !reflect.DeepEqual(v, build()) || !reflect.DeepEqual(w, build()) {
		t.Error("an argument is another one now")
	}
}
