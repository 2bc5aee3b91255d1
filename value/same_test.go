package value_test

import (
	"reflect"
	"slices"
	"strings"
	"testing"

	"refectory/api"
	"refectory/value"
)

// P5.3, Vars.
func TestVars(t *testing.T) {
	for want, v := range map[string]val{
		"":      row(whole("1"), enum("a"), str("$a"), obj("a", null)),
		"a":     vari("a"),
		"b,a,c": row(vari("b"), obj("x,y", vari("a"), row(vari("b"), vari("c"))), vari("a")),
		"a,b":   obj("z,a", vari("a"), vari("b")),
		"c,b,a": row(row(row(vari("c")), vari("b")), vari("a"), vari("c")),
		"true":  obj("a,a", vari("true"), vari("true")),
		"x,y":   {Kind: api.Var, S: "x", List: []val{vari("y"), vari("x")}}, // whatever stands in it
		"z":     {Kind: 99, S: "a", Names: []string{"a"}, List: []val{vari("z")}},
	} {
		got := value.Vars(v)
		if strings.Join(got, ",") != want || want == "" && len(got) != 0 {
			t.Errorf("Vars(%v) is %q", v, got)
		}
	}
	if got := value.Vars(val{}); len(got) != 0 {
		t.Errorf("Vars of none is %q", got)
	}
	if got := value.Vars(inside(1<<20, vari("a"))); !slices.Equal(got, []string{"a"}) {
		t.Errorf("Vars of what is very deep is %q", got)
	}
}

// kinds are values that are not the same, whatever the order of names is.
func kinds() []val {
	return []val{
		{}, {S: "a"}, {Kind: -1}, {Kind: 99}, {Kind: 99, S: "a"}, {Kind: 99, Names: []string{"a"}}, {Kind: 99, List: []val{null}}, {Kind: 99, Names: []string{"a"}, List: []val{null}},
		null, {Kind: api.Null, S: "a"}, {Kind: api.Null, List: []val{null}}, {Kind: api.Null, List: []val{null, null}}, truth("true"), truth("false"), whole("1"), whole("01"), dec("1"), dec("1.0"), dec("1.00"),
		str(""), str("1"), str("A"), str("\xff"), str("\ufffd"), enum("A"), enum("a"), vari("A"), vari("a"), {Kind: api.Var, S: "a", Names: []string{"a"}},
		row(), row(null), row(null, null), row(whole("1"), whole("2")), row(whole("2"), whole("1")), row(row()), row(obj("")), row(row(), row()), row(row(null), null), row(null, row(null)), row(row(null, null)),
		{Kind: api.List, S: "a"}, {Kind: api.List, Names: []string{"a"}}, {Kind: api.List, Names: []string{"a"}, List: []val{null}}, row(val{}), row(val{Kind: 99}),
		obj(""), {Kind: api.Obj, S: "a"}, obj("a", null), obj("b", null), obj("a", whole("1")), obj("a,a", null, null), obj("a,b", null, null),
		obj("a,b", whole("1"), whole("2")), obj("a,b", whole("2"), whole("1")), obj("a,b", whole("1"), whole("1")), obj("a,a", whole("1"), whole("2")), obj("a,a", whole("1"), whole("1")), obj("a,a", whole("2"), whole("2")),
		obj("a,a,a", whole("1"), whole("1"), whole("2")), obj("a,a,a", whole("1"), whole("2"), whole("2")), obj("a,a,b", whole("1"), whole("1"), whole("2")), obj("a,a,b", whole("1"), whole("2"), whole("1")),
		obj("a", row(whole("1"), whole("2"))), obj("a", row(whole("2"), whole("1"))), obj("a", obj("a", null)), obj("a", obj("b", null)), obj("a,b", obj("a", null), null), obj("a,b", null, obj("a", null)),
		obj("a=0", null), obj("a=1,2:b", null, null), obj("a,2:b", null, null), obj("ab", null), obj("a", val{}),
		obj("a"), obj("b"), obj("a,b"), obj("a,a"), obj("a,b", null), obj("b,a", null), obj("a,b", whole("1")),
		inside(40, null), inside(41, null), inside(40, row()),
	}
}

// P5.3, Same: each is the same as itself alone.
func TestSame(t *testing.T) {
	for i, a := range kinds() {
		for k, b := range kinds() {
			want := i == k
			if got := value.Same(a, b); got != want {
				t.Errorf("Same(%v, %v) is %v", a, b, got)
			}
			for _, in := range []func(val) val{func(v val) val { return row(null, v) }, func(v val) val { return obj("a,a", whole("7"), v) }} {
				if got := value.Same(in(a), in(b)); got != want {
					t.Errorf("Same(%v, %v) is %v", in(a), in(b), got)
				}
			}
		}
	}
}

// P5.3: an object's names may stand in any order.
func TestSameInAnyOrder(t *testing.T) {
	for _, c := range [][2]val{
		{obj("a,b", whole("1"), whole("2")), obj("b,a", whole("2"), whole("1"))},
		{obj("a,a", whole("1"), whole("2")), obj("a,a", whole("2"), whole("1"))},
		{obj("a,b,a,c", whole("1"), whole("2"), null, row()), obj("c,a,b,a", row(), null, whole("2"), whole("1"))},
		{obj("a", obj("b,c", whole("1"), whole("2"))), obj("a", obj("c,b", whole("2"), whole("1")))},
		{row(obj("a,b", null, vari("x"))), row(obj("b,a", vari("x"), null))},
		{obj("a,a", obj("b,c", null, row()), obj("c,b", null, row())), obj("a,a", obj("b,c", row(), null), obj("c,b", row(), null))},
		{obj("a,b", null), obj("a,b", null)},
		{obj("c,a,b", null), obj("c,b,a", null)},
	} {
		if !value.Same(c[0], c[1]) || !value.Same(c[1], c[0]) {
			t.Errorf("%v, %v are not the same", c[0], c[1])
		}
	}
}

// eachOrder calls f with each order of the numbers below n.
func eachOrder(n int, f func([]int)) {
	var grow func(l []int)
	grow = func(l []int) {
		if len(l) == n {
			f(l)
			return
		}
		for i := range n {
			if !slices.Contains(l, i) {
				grow(append(l[:len(l):len(l)], i))
			}
		}
	}
	grow(nil)
}

func TestSameOfEachOrder(t *testing.T) {
	names := []string{"a", "b", "a", "c", "a"}
	parts := []val{whole("1"), row(whole("1"), null), whole("2"), obj("x,y", null, vari("v")), whole("1")}
	first := val{Kind: api.Obj, Names: names, List: parts}
	eachOrder(len(names), func(order []int) {
		other, wrong := val{Kind: api.Obj}, val{Kind: api.Obj}
		for i, at := range order {
			other.Names = append(other.Names, names[at])
			other.List = append(other.List, parts[at])
			// Names and values that do not go together are something else.
			wrong.Names = append(wrong.Names, names[at])
			wrong.List = append(wrong.List, parts[order[(i+1)%len(order)]])
		}
		if !value.Same(first, other) || !value.Same(other, first) {
			t.Errorf("%v is not the same as %v", other, first)
		}
		if value.Same(first, wrong) {
			t.Errorf("%v is the same as %v", wrong, first)
		}
		// A list has an order.
		inOrder := slices.IsSorted(order)
		swapped := slices.Equal(order, []int{4, 1, 2, 3, 0})
		if got := value.Same(row(parts...), row(other.List...)); got != (inOrder || swapped) {
			t.Errorf("lists in the order %v: %v", order, got)
		}
	})
}

// P5.3: of other kinds, and of what no name has, only how many they are.
func TestSameByNumber(t *testing.T) {
	for _, kind := range []int{0, -1, 99, api.Null, api.Int, api.Str, api.Var} {
		a := val{Kind: kind, S: "s", Names: []string{"a"}, List: []val{null, whole("1")}}
		b := val{Kind: kind, S: "s", Names: []string{"b"}, List: []val{row(), str("x")}}
		if !value.Same(a, b) || !value.Same(row(a), row(b)) {
			t.Errorf("kind %d: names and values are as many", kind)
		}
		b.List = b.List[:1]
		if value.Same(a, b) {
			t.Errorf("kind %d: values are not as many", kind)
		}
	}
	a := val{Kind: api.List, Names: []string{"a"}, List: []val{null}}
	b := val{Kind: api.List, Names: []string{"b"}, List: []val{null}}
	if !value.Same(a, b) {
		t.Error("names of lists are only counted")
	}
	if !value.Same(obj("a", null, null), obj("a", null, row())) || value.Same(obj("a", null, null), obj("a", row(), null)) {
		t.Error("of an object's values those that have a name tell")
	}
}

// P5.3: names are told apart whatever they have, values however many there are.
func TestSameTellsApart(t *testing.T) {
	a := val{Kind: api.Obj, Names: []string{"a,b", "c"}}
	b := val{Kind: api.Obj, Names: []string{"a", "b,c"}}
	if value.Same(a, b) {
		t.Error("names with commas in them")
	}
	var all []val
	for i := range 13 {
		all = append(all, whole(strings.Repeat("1", i)))
	}
	pair := func(i, k int) val { return row(inside(3, row(all...)), row(all[i], all[k])) }
	for at := range 13 * 13 {
		for other := range 13 * 13 {
			if value.Same(pair(at/13, at%13), pair(other/13, other%13)) != (at == other) {
				t.Errorf("pairs %d and %d", at, other)
			}
		}
	}
}

// R1, R3: depth and number are no bound; nil and an empty list are one; nothing is changed.
func TestSameOfMany(t *testing.T) {
	const n = 1 << 18
	deep, alike := inside(n, null), inside(n, null)
	if !value.Same(deep, alike) || value.Same(deep, row(alike)) || value.Same(deep, inside(n, row())) {
		t.Error("values that are very deep")
	}
	a, b := val{Kind: api.Obj}, val{Kind: api.Obj}
	for i := range 20000 {
		a.Names, a.List = append(a.Names, "a"), append(a.List, whole(strings.Repeat("1", i%7)))
		b.Names, b.List = append(b.Names, "a"), append(b.List, whole(strings.Repeat("1", (20000-1-i)%7)))
	}
	was := append([]val(nil), b.List...)
	if !value.Same(a, b) || !reflect.DeepEqual(b.List, was) {
		t.Error("an object of many values of one name")
	}
	empty := val{Kind: api.Obj, Names: []string{}, List: []val{}}
	if !value.Same(empty, obj("")) || !value.Same(row(empty), row(obj(""))) {
		t.Error("nil and an empty list are not one")
	}
}
