package sdl_test

import (
	"reflect"
	"slices"
	"strings"
	"testing"

	"refectory/api"
	"refectory/sdl"
)

// P8.3, P8.4: the text of each part, and back.
func TestText(t *testing.T) {
	a := field("a", "Int")
	for want, x := range map[string]api.Schema{
		"schema{query:Query}":                                                                  schema(),
		"schema{query:Q mutation:M}":                                                           {Query: "Q", Mutation: "M"},
		"schema{query:query mutation:schema}":                                                  {Query: "query", Mutation: "schema"},
		"schema{query:Q mutation:Q} scalar A scalar A":                                         {Query: "Q", Mutation: "Q", Types: []api.TypeDef{scalar("A"), scalar("A")}},
		"schema{query:Query} scalar Mutation":                                                  schema(scalar("Mutation")),
		"schema{query:Query} type T{a:Int@cost(n:1)}":                                          schema(object("T", a)),
		"schema{query:Query} type T implements F{a:Int@cost(n:1)}":                             schema(with(object("T", a), "F")),
		"schema{query:Query} type T implements F&G&F{a:Int@cost(n:1) b:Int@cost(n:1)}":         schema(with(object("T", a, field("b", "Int")), "F", "G", "F")),
		"schema{query:Query} type T{a:Int@cost(n:0) b:Int@cost(n:-7) c:Int@cost(n:51)}":        schema(object("T", costing(0, a), costing(-7, field("b", "Int")), costing(51, field("c", "Int")))),
		"schema{query:Query} type T{a:Int@cost(n:1000000) a:Int@cost(n:-1000000)}":             schema(object("T", costing(1000000, a), costing(-1000000, a))),
		"schema{query:Query} type T{a:[[Int!]]!@cost(n:1)}":                                    schema(object("T", api.FieldDef{Name: "a", Type: api.Type{Name: "Int", Wraps: "!]]!"}, Cost: 1})),
		"schema{query:Query} type T{a(b:Int):Int@cost(n:1)}":                                   schema(object("T", field("a", "Int", in("b", "Int")))),
		"schema{query:Query} type T{a(b:Int c:[E!]!=RED d:S=\"s\"):Int@cost(n:1)}":             schema(object("T", field("a", "Int", in("b", "Int"), api.Input{Name: "c", Type: api.Type{Name: "E", Wraps: "!]!"}, Default: word("RED")}, inWith("d", "S", text("s"))))),
		"schema{query:Query} type T{a(b:Int!=1):Int@cost(n:1) c(d:[Int]=[]):S@cost(n:1)}":      schema(object("T", field("a", "Int", api.Input{Name: "b", Type: api.Type{Name: "Int", Wraps: "!"}, Default: num("1")}), field("c", "S", api.Input{Name: "d", Type: api.Type{Name: "Int", Wraps: "]"}, Default: list()}))),
		"schema{query:Query} interface F{a:Int@cost(n:1)} interface F{a(b:Int):Int@cost(n:2)}": schema(face("F", a), face("F", costing(2, field("a", "Int", in("b", "Int"))))),
		"schema{query:Query} union U=A union V=A|B|A":                                          schema(union("U", "A"), union("V", "A", "B", "A")),
		"schema{query:Query} enum E{A} enum F{true false null A A}":                            schema(enum("E", "A"), enum("F", "true", "false", "null", "A", "A")),
		"schema{query:Query} input I{a:Int} input J{a:Int! b:[S]=null a:Int=1 c:S}":            schema(input("I", in("a", "Int")), input("J", api.Input{Name: "a", Type: api.Type{Name: "Int", Wraps: "!"}}, api.Input{Name: "b", Type: api.Type{Name: "S", Wraps: "]"}, Default: api.Value{Kind: api.Null}}, inWith("a", "Int", num("1")), in("c", "S"))),
		"schema{query:Query} input I{a:J={b:-1.5e+3 c:[true null]}}":                           schema(input("I", inWith("a", "J", api.Value{Kind: api.Obj, Names: []string{"b", "c"}, List: []api.Value{{Kind: api.Dec, S: "-1.5e+3"}, list(api.Value{Kind: api.Bool, S: "true"}, api.Value{Kind: api.Null})}}))),
		"schema{query:Query} input I{a:J={b:[1 2] c:\"\\\"\\n\\u007f\u00e9\" b:{}}}":           schema(input("I", inWith("a", "J", api.Value{Kind: api.Obj, Names: []string{"b", "c", "b"}, List: []api.Value{list(num("1"), num("2")), text("\"\n\x7f\u00e9"), {Kind: api.Obj}}}))),
		rich: {Query: "Q", Mutation: "M", Types: []api.TypeDef{
			scalar("S"),
			with(object("Q", costing(5, a), api.FieldDef{Name: "b", Type: api.Type{Name: "U", Wraps: "]"}, Args: []api.Input{{Name: "c", Type: api.Type{Name: "I", Wraps: "!]!"}, Default: list(named("x", num("1")))}, inWith("d", "E", word("RED"))}, Cost: 1}), "F", "G"),
			object("M", costing(-2, field("m", "S", inWith("s", "S", text("s"))))),
			face("F", a), face("G", a), union("U", "Q", "M"), enum("E", "RED", "BLUE"),
			input("I", api.Input{Name: "x", Type: api.Type{Name: "Int", Wraps: "!"}}, inWith("y", "S", api.Value{Kind: api.Null})),
		}},
	} {
		if got := sdl.Text(x); got != want {
			t.Errorf("Text(%+v) is %q, not %q", x, got, want)
		}
		if back, at, e := sdl.Parse(want); e != api.OK || at != 0 || !exact(back, x) {
			t.Errorf("%q is parsed as %+v, %d, %d", want, back, at, e)
		}
	}
}

// P8.3: what was written in another way.
func TestTextOfOtherTexts(t *testing.T) {
	for s, want := range map[string]string{
		"":                         "schema{query:Query}",
		"type Mutation{a:Int}":     "schema{query:Query mutation:Mutation} type Mutation{a:Int@cost(n:1)}",
		"scalar A schema{query:A}": "schema{query:A} scalar A",
		`"x"scalar,A"""y"""enum#z` + "\n" + `E{"a"A,"b"B}`:                                                                 "schema{query:Query} scalar A enum E{A B}",
		"type T{a:Int@cost(n:1234567) b:Int@cost(n:-1234567) c:Int@cost(n:-0)}":                                            "schema{query:Query} type T{a:Int@cost(n:1000000) b:Int@cost(n:-1000000) c:Int@cost(n:0)}",
		`type T implements F & G { a ( b : [ S ! ] = [ "\u0041" , """ x """ ] , "c" c : I = { x : 1 , y : RED } ) : Int }`: `schema{query:Query} type T implements F&G{a(b:[S!]=["A" " x "] c:I={x:1 y:RED}):Int@cost(n:1)}`,
		"union U = A | B input I { a : Int b : Int }":                                                                      "schema{query:Query} union U=A|B input I{a:Int b:Int}",
	} {
		x, _, e := sdl.Parse(s)
		if got := sdl.Text(x); e != api.OK || got != want {
			t.Errorf("%q is told as %q, not %q", s, got, want)
		}
	}
}

// P8.3: the most bytes.
func TestTextBounds(t *testing.T) {
	for n := api.MaxSchema - 2; n <= api.MaxSchema+2; n++ {
		want := `schema{query:Query} input I{a:S="` + strings.Repeat("x", n-35) + `"}`
		x := schema(input("I", inWith("a", "S", text(strings.Repeat("x", n-35)))))
		if len(want) != n {
			t.Fatal(len(want), n)
		}
		if got := sdl.Text(x); (got != "") != (n <= api.MaxSchema) || got != "" && got != want {
			t.Errorf("of %d bytes it is %d bytes", n, len(got))
		}
	}
	// The text is longer than what is said: only as it is written does it count.
	for n, want := range map[int]bool{1327: true, 1328: false} {
		if got := sdl.Text(schema(input("I", inWith("a", "S", text(strings.Repeat("\x7f", n)))))); (got != "") != want {
			t.Errorf("of %d bytes 127 it is %d bytes", n, len(got))
		}
	}
	for n, want := range map[int]bool{885: true, 886: true, 887: false, 888: false, 100000: false} {
		x := schema(slices.Repeat([]api.TypeDef{scalar("A")}, n)...)
		if got := sdl.Text(x); (got != "") != want || want && got != "schema{query:Query}"+strings.Repeat(" scalar A", n) {
			t.Errorf("of %d types it is %d bytes", n, len(got))
		}
	}
}

// P8.3: how deep values and types may be.
func TestTextDeep(t *testing.T) {
	for n := range 16 {
		wraps := strings.Repeat("]", n)
		o := num("1")
		for range n {
			o = named("b", o)
		}
		for _, x := range []api.Schema{
			schema(input("I", inWith("a", "A", nested(n, num("1"))))), schema(input("I", inWith("a", "A", o))), schema(object("T", field("a", "Int", inWith("b", "A", nested(n, num("1")))))),
			schema(input("I", api.Input{Name: "a", Type: api.Type{Name: "A", Wraps: wraps}})), schema(face("F", api.FieldDef{Name: "a", Type: api.Type{Name: "A", Wraps: wraps}})),
		} {
			if got := sdl.Text(x); (got != "") != (n <= api.MaxDeep) {
				t.Errorf("%d lists in one another: %q", n, got)
			}
		}
	}
}

// R3: an empty list is one like nil; what is handed in stays as it is.
func TestLists(t *testing.T) {
	bare := api.FieldDef{Name: "a", Args: []api.Input{}, Type: typed("Int"), Cost: 1}
	none := api.Value{Names: []string{}, List: []api.Value{}}
	x := api.Schema{Query: "Q", Types: []api.TypeDef{
		{Kind: api.Scalar, Name: "S", Names: []string{}, Fields: []api.FieldDef{}, Inputs: []api.Input{}},
		{Kind: api.Object, Name: "T", Names: []string{}, Fields: []api.FieldDef{bare}, Inputs: []api.Input{}},
		{Kind: api.Inputs, Name: "I", Names: []string{}, Fields: []api.FieldDef{}, Inputs: []api.Input{{Name: "a", Type: typed("Int"), Default: none}, inWith("b", "Int", api.Value{Kind: api.List, Names: []string{}, List: []api.Value{}})}},
	}}
	if got := sdl.Text(x); got != "schema{query:Q} scalar S type T{a:Int@cost(n:1)} input I{a:Int b:Int=[]}" {
		t.Errorf("with empty lists it is %q", got)
	}
	if got := sdl.Text(api.Schema{Query: "Q", Types: []api.TypeDef{}}); got != "schema{query:Q}" {
		t.Errorf("of no types it is %q", got)
	}
	y, _, _ := sdl.Parse(rich)
	was, _, _ := sdl.Parse(rich)
	if sdl.Text(y) != rich || !reflect.DeepEqual(y, was) {
		t.Error("a schema was changed")
	}
}

// R1: values that hold themselves, and few lists that stand for more than could be written, have an end.
func TestCirclesAndSharedLists(t *testing.T) {
	values := []api.Value{num("1"), list(), {Kind: api.Obj, Names: []string{"a", "b", "c", "d"}}, {Kind: api.Enum, S: "y"}}
	for i := range values[1:] {
		values[i+1].List = values
	}
	shared := num("1")
	for range api.MaxDeep {
		shared = list(shared, shared, shared, shared, shared, shared, shared, shared, shared, shared, shared, shared, shared, shared, shared, shared, shared, shared, shared, shared)
	}
	for _, v := range append(values[1:], shared, api.Value{List: values}) {
		for _, x := range []api.Schema{schema(input("I", inWith("a", "A", v))), schema(input("I", inWith("a", "A", v), in("b", "A"))), schema(object("T", field("a", "Int", inWith("a", "A", v)))), schema(object("T", field("a", "Int", inWith("a", "A", v), in("y", "B"))))} {
			if got := sdl.Text(x); got != "" {
				t.Errorf("a schema of what is too much is %q", got)
			}
		}
	}
	args := slices.Repeat([]api.Input{in("a", "A")}, 10000)
	fields := slices.Repeat([]api.FieldDef{field("a", "A", args...)}, 10000)
	if got := sdl.Text(schema(slices.Repeat([]api.TypeDef{object("T", fields...)}, 10000)...)); got != "" {
		t.Errorf("a schema of many lists is %d bytes", len(got))
	}
}
