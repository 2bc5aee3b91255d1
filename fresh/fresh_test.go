package fresh_test

import (
	"reflect"
	"slices"
	"testing"

	"refectory/api"
	"refectory/fresh"
)

type value = api.Value

func list(parts ...value) value { return value{Kind: api.List, List: parts} }

// ruin turns each list of a value, and its spare room.
func ruin(v value) {
	names, parts := v.Names[:cap(v.Names)], v.List[:cap(v.List)]
	for i := range names {
		names[i] = "ruined"
	}
	for i := range parts {
		ruin(parts[i])
		parts[i] = value{Kind: 77, S: "ruined"}
	}
}

// Copies are alike, and share nothing: not with what they are of, and not within themselves.
func TestValue(t *testing.T) {
	build := func() value {
		shared := []value{{Kind: api.Obj, S: "s", Names: []string{"a", "b"}, List: []value{list(), {Kind: 99}}}, {}}
		return value{Kind: -1, S: "t", Names: []string{"x"}, List: []value{list(shared...), list(shared...), list(shared[:1]...)}}
	}
	v := build()
	first, second := fresh.Value(v), fresh.Value(v)
	ruin(first.List[0])
	if !reflect.DeepEqual(first.List[1:], second.List[1:]) {
		t.Error("two lists of one copy share memory")
	}
	ruin(first)
	if !reflect.DeepEqual(v, build()) {
		t.Error("a copy shares memory with what it is of")
	}
	ruin(v)
	if want := fresh.Value(build()); !reflect.DeepEqual(second, want) {
		t.Errorf("%v, not %v", second, want)
	}
	if none := fresh.Value(value{}); !reflect.DeepEqual(none, value{}) {
		t.Error(none)
	}
}

// Depth is no bound.
func TestDeepValue(t *testing.T) {
	const n = 1 << 20
	v := value{Kind: api.Null}
	for range n {
		v = list(v)
	}
	v = fresh.Value(v)
	depth := 0
	for ; len(v.List) > 0; v = v.List[0] {
		depth++
	}
	if depth != n || v.Kind != api.Null {
		t.Error(depth, v.Kind)
	}
}

func TestNamesAndList(t *testing.T) {
	room := []string{"a", "b", "c"}
	names := fresh.Names(room[:2])
	again := fresh.List(room[:2], func(s string) string { return s + s })
	if !slices.Equal(names, []string{"a", "b"}) || !slices.Equal(again, []string{"aa", "bb"}) {
		t.Error(names, again)
	}
	for _, l := range [][]string{names[:cap(names)], again[:cap(again)]} {
		for i := range l {
			l[i] = "ruined"
		}
	}
	if !slices.Equal(room, []string{"a", "b", "c"}) {
		t.Error(room)
	}
	if fresh.Names([]string{}) != nil || fresh.List([]string{}, func(s string) string { return s }) != nil {
		t.Error("no names are some")
	}
}
