package sdl_test

import (
	"strings"
	"testing"

	"refectory/api"
	"refectory/sdl"
)

// wantNone asks for no text of a schema, and of one with more types around that.
func wantNone(t *testing.T, x api.Schema) {
	t.Helper()
	for _, types := range [][]api.TypeDef{x.Types, append([]api.TypeDef{scalar("S")}, x.Types...), append(append([]api.TypeDef{}, x.Types...), object("T", field("a", "Int")))} {
		y := api.Schema{Query: x.Query, Mutation: x.Mutation, Types: types}
		if got := sdl.Text(y); got != "" {
			t.Errorf("Text(%+v) is %q", y, got)
		}
	}
}

// wrongNames are none; most of them give a text that is parsed as another schema.
var wrongNames = []string{"", " ", "A B", "A,", "1", "A:", "A}", "\u00e9", "A{a:Int}type B", "A#", "A#\n", "A@cost(n:1)", `"x"A`, `"x"`, " A", "-A", "A\n", "A&B", "A|B", "A=B", "A implements B", "A:Int=1 b", "(b:Int)", "A!", "[A]", strings.Repeat("A", 41)}

// P8.3: names that are none.
func TestTextOfWrongNames(t *testing.T) {
	a := field("a", "Int")
	for _, name := range wrongNames {
		wantNone(t, api.Schema{Query: name})
		wantNone(t, api.Schema{Query: name, Mutation: "M"})
		if name != "" {
			wantNone(t, api.Schema{Query: "Q", Mutation: name})
		}
		for _, y := range []api.TypeDef{
			scalar(name), object(name, a), face(name, a), union(name, "A"), enum(name, "A"), input(name, in("a", "Int")),
			with(object("T", a), name), with(object("T", a), "F", name), union("U", name), union("U", "A", name), enum("E", name), enum("E", name, "A"),
			object("T", field(name, "Int")), object("T", a, field(name, "Int")), face("F", field(name, "Int"), a), object("T", field("a", name)), face("F", field("a", name), a),
			object("T", field("a", "Int", in(name, "Int"))), object("T", field("a", "Int", in("b", "Int"), in(name, "Int"))), object("T", field("a", "Int", in("b", name))), face("F", field("a", "Int", in("b", name), in("c", "Int"))),
			input("I", in(name, "Int")), input("I", in("a", "Int"), in(name, "Int")), input("I", in("a", name)), input("I", in("a", name), in("b", "Int")),
			input("I", inWith("a", "Int", named(name, num("1")))), input("I", inWith("a", "Int", word(name))), input("I", inWith("a", "Int", word(name)), in("b", "Int")), input("I", inWith("a", "Int", api.Value{Kind: api.Var, S: name})),
		} {
			wantNone(t, schema(y))
		}
	}
}

// P8.3: types without what their kind must have, with what it has not, and of no kind.
func TestTextOfWrongTypes(t *testing.T) {
	a, b := field("a", "Int"), in("b", "Int")
	fields := func(y api.TypeDef) api.TypeDef { y.Fields = []api.FieldDef{a}; return y }
	inputs := func(y api.TypeDef) api.TypeDef { y.Inputs = []api.Input{b}; return y }
	for _, y := range []api.TypeDef{
		{}, {Name: "A"}, {Kind: -1, Name: "A"}, {Kind: 7, Name: "A"}, {Kind: 7, Name: "A", Fields: []api.FieldDef{a}, Inputs: []api.Input{b}, Names: []string{"B"}},
		object("T"), with(object("T"), "F"), face("F"), union("U"), enum("E"), input("I"), {Kind: api.Object}, {Kind: api.Scalar},
		with(scalar("S"), "A"), fields(scalar("S")), inputs(scalar("S")),
		inputs(object("T", a)), inputs(with(object("T", a), "F")), {Kind: api.Object, Name: "T", Inputs: []api.Input{b}}, {Kind: api.Object, Name: "T", Names: []string{"A"}},
		with(face("F", a), "A"), inputs(face("F", a)),
		fields(union("U", "A")), inputs(union("U", "A")), fields(union("U")),
		fields(enum("E", "A")), inputs(enum("E", "A")), inputs(enum("E")),
		with(input("I", b), "A"), fields(input("I", b)), fields(input("I")),
	} {
		wantNone(t, schema(y))
	}
}

// P8.3: parts of fields and inputs that no text gives.
func TestTextOfWrongParts(t *testing.T) {
	for _, cost := range []int{1000001, -1000001, 1 << 32, 1 << 62, -1 << 63, 1<<63 - 1} {
		wantNone(t, schema(object("T", costing(cost, field("a", "Int")))))
		wantNone(t, schema(face("T", field("a", "Int"), costing(cost, field("a", "Int")))))
	}
	for _, wraps := range []string{"!!", "]!!", "!!]", "[", "]x", "! ", " ", "!=1", "@cost(n:1)", strings.Repeat("]", 13)} {
		wrong := api.Type{Name: "Int", Wraps: wraps}
		wantNone(t, schema(object("T", api.FieldDef{Name: "a", Type: wrong, Cost: 1})))
		wantNone(t, schema(face("F", field("a", "Int", api.Input{Name: "b", Type: wrong}))))
		wantNone(t, schema(input("I", api.Input{Name: "b", Type: wrong}, in("c", "Int"))))
	}
	for _, v := range []api.Value{
		{Kind: api.Var, S: "v"}, list(api.Value{Kind: api.Var, S: "v"}), named("x", list(num("1"), api.Value{Kind: api.Var, S: "v"})),
		{S: "1"}, {Names: []string{"a"}}, {List: []api.Value{num("1")}}, {Kind: 10}, {Kind: -1}, {Kind: 10, S: "1"}, list(api.Value{}), named("x", api.Value{}),
		num(""), num("01"), num("1.5"), num("+1"), num("1 2"), {Kind: api.Dec, S: "1"}, {Kind: api.Dec, S: "1."}, {Kind: api.Bool, S: "True"}, {Kind: api.Bool}, {Kind: api.Null, S: "null"}, text("\xff"), word("true"), word("null"), {Kind: api.Bool, S: "RED"},
		{Kind: api.Int, S: "1", List: []api.Value{num("1")}}, {Kind: api.Str, S: "a", Names: []string{"b"}}, {Kind: api.List, S: "a"}, {Kind: api.List, Names: []string{"a"}, List: []api.Value{num("1")}}, {Kind: api.Obj, S: "a"}, {Kind: api.Obj, Names: []string{"a"}}, {Kind: api.Obj, List: []api.Value{num("1")}},
	} {
		wantNone(t, schema(input("I", inWith("a", "A", v))))
		// The name behind a value that has no text stands in its place.
		wantNone(t, schema(input("I", inWith("a", "A", v), in("b", "A"))))
		wantNone(t, schema(object("T", field("a", "Int", inWith("b", "A", num("1")), inWith("c", "A", v)))))
		wantNone(t, schema(face("F", field("a", "Int", inWith("c", "A", v), in("d", "Int")))))
	}
}
