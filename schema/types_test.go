package schema_test

import (
	"strings"
	"testing"

	"refectory/api"
	"refectory/lex"
	"refectory/schema"
	"refectory/value"
)

// typed is the type of a text; of what is none the text is its name.
func typed(s string) api.Type {
	l, _, _ := lex.All(s)
	y, next, ok := value.Type(l, 0)
	if !ok || next != len(l) {
		return api.Type{Name: s}
	}
	return y
}

// wrongTypes are such as CheckType says no to.
func wrongTypes(name string) []api.Type {
	return []api.Type{
		{}, {Wraps: "!"}, {Name: name + " "}, {Name: name + "!"}, {Name: "[" + name + "]"}, {Name: strings.Repeat("A", api.MaxName+1)}, {Name: "\xff"}, {Name: "9"},
		{Name: name, Wraps: "!!"}, {Name: name, Wraps: "]!!"}, {Name: name, Wraps: "!!]"}, {Name: name, Wraps: "x"}, {Name: name, Wraps: "[]"}, {Name: name, Wraps: "] "}, {Name: name, Wraps: strings.Repeat("]", 13)}, {Name: name, Wraps: strings.Repeat("]!", 5000)},
	}
}

// P9.2, Sub: types that may stand for others, and none else of those that are named here.
func TestSub(t *testing.T) {
	x := parse(t, house)
	for row, want := range map[string]bool{
		"Int Int": true, "Int! Int": true, "Int Int!": false, "Int! Int!": true,
		"Int Float": false, "Int ID": false, "E E": true, "E String": false, "I! I": true, "S S": true, "S Int": false, "Nope Nope": true, "Nope! Nope": true, "Nope Int": false, "Nope Place": false, "Nope Some": false, "Query Nope": false,

		"Query Place": true, "Query Thing": true, "Query! Place": true, "Query! Place!": true, "Query Place!": false, "Query Bare": false, "Place Query": false, "Tree Place": false, "Tree Thing": true, "Place Thing": false, "Place Place": true, "Bare Place": false,
		"Tree Some": true, "Pond Some": true, "Query Some": false, "Query Whole": true, "Some Tree": false, "Some Whole": false, "Whole Some": false, "Some Thing": false, "Thing Some": false, "Place Some": false, "Mutation Query": false, "Tree Query": false,

		"[Int] [Int]": true, "[Int] Int": false, "Int [Int]": false, "[Int!] [Int]": true, "[Int]! [Int]": true, "[Int!]! [Int]": true, "[Int] [Int!]": false, "[Int] [Int]!": false, "[Int]! [Int!]": false, "[Int!] [Int]!": false, "[Int!]! [Int!]": true, "[Int!]! [Int]!": true, "[Int!]! [Int!]!": true,
		"[[Int]] [Int]": false, "[Int] [[Int]]": false, "[[Int!]!]! [[Int]]": true, "[[Int!]]! [[Int]!]": false, "[[Int]!]! [[Int!]]": false, "[Int]! Int": false, "Int! [Int]": false, "[Int!] Int!": false,
		"[Query!] [Place]": true, "[Query] [Place!]": false, "[[Tree!]]! [[Some]]": true, "[Place] [Query]": false, "Query [Place]": false, "[Query] Place": false, "[Nope!] [Nope]": true,
	} {
		a, b, _ := strings.Cut(row, " ")
		if got := schema.Sub(x, typed(a), typed(b)); got != want {
			t.Errorf("Sub of %s is %v", row, got)
		}
	}
	deep := api.Type{Name: "Tree", Wraps: strings.Repeat("!]", 12) + "!"}
	asked := api.Type{Name: "Some", Wraps: strings.Repeat("]", 12)}
	if !schema.Sub(x, deep, asked) || schema.Sub(x, asked, deep) || schema.Sub(x, deep, api.Type{Name: "Some", Wraps: asked.Wraps[1:]}) {
		t.Error("types of the most lists")
	}
}

// P9.2, Sub: no, if CheckType says no to one, even where both are the same.
func TestSubWrongTypes(t *testing.T) {
	x := parse(t, house)
	// What is no name may be that of a type.
	x.Types = append(x.Types, named(api.Object, "Query ", "Place"), named(api.Object, "", "Place"), named(api.Object, "Query!", "Place"), named(api.Union, "9", "Query"))
	for _, wrong := range wrongTypes("Query") {
		for _, right := range []string{"Query", "Query!", "[Query]", "Place", "Place!", "Whole", "[Place]"} {
			if schema.Sub(x, wrong, typed(right)) || schema.Sub(x, typed(right), wrong) {
				t.Errorf("Sub of %v and %s", wrong, right)
			}
		}
		for _, other := range append(wrongTypes("Query"), wrongTypes("Place")...) {
			if schema.Sub(x, wrong, other) {
				t.Errorf("Sub of %v and %v", wrong, other)
			}
		}
	}
}

// P9.2, Sub: of schemas that may not be.
func TestSubOdd(t *testing.T) {
	x := api.Schema{Types: []api.TypeDef{
		named(api.Object, "A", "F", "U", "B", "E", "Nope", "Int"), named(api.Object, "B", "G"), named(api.Face, "F", "G", "U", "A", "F"), named(api.Face, "G", "F"),
		named(api.Union, "U", "A", "F", "V", "E", "Nope", "U", "Int"), named(api.Union, "V", "B", "B"), named(api.Enums, "E", "F", "G"), named(api.Inputs, "I", "F"), named(api.Scalar, "S", "F"), named(7, "K", "F"),
		named(api.Object, "G", "F"), named(api.Face, "E"), named(api.Object, "B", "F"), named(api.Union, "F", "B"), named(api.Object, "Int", "F"), named(api.Enums, "Int"),
	}}
	yes := " A/F A/U B/G B/V F/G G/F Int/F Int/U "
	all := strings.Fields("A B F G U V E I S K Int ID Nope")
	for _, a := range all {
		for _, b := range all {
			want := a == b || strings.Contains(yes, " "+a+"/"+b+" ")
			if got := schema.Sub(x, typed(a), typed(b)); got != want {
				t.Errorf("Sub of %s and %s is %v", a, b, got)
			}
			if got := schema.Sub(x, typed("["+a+"!]!"), typed("["+b+"]")); got != want {
				t.Errorf("Sub of lists of %s and %s is %v", a, b, got)
			}
		}
	}
}

// P9.2, In and Out.
func TestInAndOut(t *testing.T) {
	x := parse(t, house)
	// A name that is the first one's, and a Kind that is none.
	x.Types = append(x.Types, named(api.Object, "E"), named(api.Inputs, "Query"), named(api.Inputs, "ID"), named(0, "Zero"), named(7, "Seven"), named(-1, "Less"))
	for name, want := range map[string]string{
		"Int": "in out", "Float": "in out", "String": "in out", "Boolean": "in out", "S": "in out", "E": "in out", "I": "in", "ID": "in",
		"Query": "out", "Tree": "out", "Place": "out", "Bare": "out", "Some": "out", "Nope": "", "int": "", "Zero": "", "Seven": "", "Less": "", "X": "", "a": "",
	} {
		for _, wraps := range []string{"", "!", "]", "!]", "]!", "!]!", "]]]", strings.Repeat("!]", 12) + "!"} {
			y := api.Type{Name: name, Wraps: wraps}
			in, out := schema.In(x, y), schema.Out(x, y)
			if in != strings.HasPrefix(want, "in") || out != strings.HasSuffix(want, "out") {
				t.Errorf("%v: In is %v, Out %v", y, in, out)
			}
		}
		for _, y := range wrongTypes(name) {
			x := api.Schema{Types: append([]api.TypeDef{named(api.Scalar, y.Name)}, x.Types...)}
			if schema.In(x, y) || schema.Out(x, y) {
				t.Errorf("%v: In is %v, Out %v", y, schema.In(x, y), schema.Out(x, y))
			}
		}
	}
}
