package jval_test

import (
	"reflect"
	"testing"

	"refectory/api"
	"refectory/jval"
)

// P2.2, Same: each is like itself alone, JSON or not.
func TestSame(t *testing.T) {
	build := func() []value {
		return []value{
			{}, {S: "a"}, {Kind: -1}, {Kind: 99}, {Kind: api.Enum, S: "a"}, {Kind: api.Var, S: "a"},
			{Names: []string{"a"}}, {Names: []string{""}}, {Names: []string{"a", "a"}}, {List: []value{{}}},
			null, yes, no, {Kind: api.Null, S: "a"},
			whole("1"), whole("01"), whole("1.0"), dec("1"), dec("1.0"), dec("1.00"), dec("1e0"), dec("1E0"), whole("0"), whole("-0"),
			str(""), str("1"), str("a"), str("A"), str("\xff"), str("\ufffd"), str("a\x00"),
			list(), list(null), list(null, null), list(whole("1"), whole("2")), list(whole("2"), whole("1")), list(list()), list(list(), list()), list(list(list())), list(obj("")),
			list(list(whole("1"), whole("2"))), list(list(whole("1")), list(whole("2"))), list(list(whole("1")), whole("2")), list(whole("1"), list(whole("2"))),
			obj(""), obj("a"), obj("", null), obj("a", null), obj("b", null), obj("a", whole("1")), obj("a,a", null, null), obj("a,b", null, null), obj("b,a", null, null), obj("a,b", null), obj("a", null, null),
			obj("a,b", whole("1"), whole("2")), obj("b,a", whole("2"), whole("1")), obj("a,b", whole("2"), whole("1")),
			obj("ab", null), obj("a", obj("a", null)), obj("a", obj("b", null)), obj("a", obj("a", null), null), obj("a", list(null)),
			inside(40, null), inside(41, null), inside(40, list()), inside(40, yes), list(inside(40, null), yes), list(inside(40, null), no),
		}
	}
	for i, a := range build() {
		for k, b := range build() {
			if got := jval.Same(a, b); got != (i == k) {
				t.Errorf("Same(%v, %v) is %v", a, b, got)
			}
		}
	}
}

// P2.2: what differs may stand anywhere.
func TestSameOfEachPlace(t *testing.T) {
	build := func() value {
		return list(obj("a,b", list(whole("1"), yes), obj("c", list())), str("x"), list(list(null), list(null, dec("1.5"))))
	}
	whole := build()
	places := 0
	var spoil func(*value)
	hold := func(what string) {
		places++
		if jval.Same(whole, build()) || jval.Same(build(), whole) {
			t.Errorf("%s is not seen: %v", what, whole)
		}
	}
	spoil = func(v *value) {
		was := *v
		v.Kind += 20
		hold("Kind")
		*v = was
		v.S += "y"
		hold("S")
		*v = was
		v.Names = append([]string{"y"}, v.Names...)
		hold("Names")
		*v = was
		v.List = append([]value{{Kind: 77}}, v.List...)
		hold("List")
		*v = was
		for i := range v.Names {
			v.Names[i] += "y"
			hold("a name")
			v.Names[i] = v.Names[i][:len(v.Names[i])-1]
		}
		for i := range v.List {
			spoil(&v.List[i])
		}
	}
	spoil(&whole)
	if !jval.Same(whole, build()) || places != 4*14+3 {
		t.Errorf("%d places", places)
	}
}

// R3: nil and an empty list are one; R1: depth is no bound here.
func TestSameOfNilAndDeep(t *testing.T) {
	a := value{Kind: api.List}
	b := value{Kind: api.List, Names: []string{}, List: []value{}}
	if !jval.Same(a, b) || !jval.Same(b, a) || !jval.Same(list(a, b), list(b, a)) {
		t.Error("nil and an empty list are not alike")
	}
	const n = 1 << 20
	deep, alike := inside(n, null), inside(n, null)
	if !jval.Same(deep, alike) || jval.Same(deep, list(alike)) || jval.Same(deep, inside(n, yes)) {
		t.Error("values that are very deep")
	}
}

// P2.2, Get.
func TestGet(t *testing.T) {
	o := obj("a,b,a,,c", whole("1"), list(str("x"), obj("k", null)), whole("3"), yes)
	for name, want := range map[string]value{"a": whole("1"), "b": list(str("x"), obj("k", null)), "": yes} {
		if got, ok := jval.Get(o, name); !jval.Same(got, want) || !ok {
			t.Errorf("Get of %q is %v, %v", name, got, ok)
		}
	}
	// c has no value; the others are no names of o.
	for _, name := range []string{"c", "A", "k", "d", "ab", "a,b", "\xff", "a\x00"} {
		if got, ok := jval.Get(o, name); !reflect.DeepEqual(got, value{}) || ok {
			t.Errorf("Get of %q is %v, %v", name, got, ok)
		}
	}
	odd := value{Kind: api.Obj, S: "s", Names: []string{"\xff"}, List: []value{{Kind: 99, S: "t"}, null}}
	if got, ok := jval.Get(odd, "\xff"); !jval.Same(got, value{Kind: 99, S: "t"}) || !ok {
		t.Errorf("Get of what is no JSON: %v, %v", got, ok)
	}
	if got, ok := jval.Get(obj("a", value{}), "a"); !jval.Same(got, value{}) || !ok {
		t.Errorf("Get of a value that is zero: %v, %v", got, ok)
	}
	for kind := -1; kind < 12; kind++ {
		v := with(o, func(v *value) { v.Kind = kind })
		if got, ok := jval.Get(v, "a"); ok != (kind == api.Obj) || !ok && !reflect.DeepEqual(got, value{}) {
			t.Errorf("Get of kind %d is %v, %v", kind, got, ok)
		}
	}
	for _, v := range []value{{}, obj(""), obj("a"), obj("", null)} {
		if got, ok := jval.Get(v, "a"); !reflect.DeepEqual(got, value{}) || ok {
			t.Errorf("Get of %v is %v, %v", v, got, ok)
		}
	}
}

// ruin changes every list of a value, and its spare room.
func ruin(v value) {
	for i := range v.Names[:cap(v.Names)] {
		v.Names[:cap(v.Names)][i] = "ruined"
	}
	for i := range v.List[:cap(v.List)] {
		part := &v.List[:cap(v.List)][i]
		ruin(*part)
		*part = str("ruined")
	}
}

// R3: what Get answers is new memory, to the innermost list.
func TestGetIsNewMemory(t *testing.T) {
	build := func() value {
		shared := list(obj("x", list(whole("1"))))
		return obj("a", list(obj("b,c", list(whole("1"), list(yes)), obj("d", list(null))), shared, shared))
	}
	v := build()
	first, _ := jval.Get(v, "a")
	second, _ := jval.Get(v, "a")
	ruin(first.List[1])
	if got := jval.Text(first.List[2]); got != `[{"x":[1]}]` {
		t.Errorf("two lists of one answer share memory: %q", got)
	}
	ruin(first)
	if !reflect.DeepEqual(v, build()) {
		t.Error("an answer shares memory with the argument")
	}
	ruin(v)
	if !jval.Same(second, build().List[0]) {
		t.Error("an answer shares memory with the argument, or with another answer")
	}
}

// R1: depth is no bound here, either.
func TestGetOfDeep(t *testing.T) {
	deep := insideObj(1<<20, list(inside(1<<20, null), yes))
	if got, ok := jval.Get(deep, "a"); !ok || !jval.Same(got, deep.List[0]) {
		t.Error("a value that is very deep")
	}
}
