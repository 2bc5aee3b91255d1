package schema_test

import (
	"reflect"
	"slices"
	"strings"
	"testing"

	"refectory/api"
	"refectory/schema"
	"refectory/sdl"
)

const house = `type Query implements Place&Thing{a(x:Int=1 y:[E!]=[X]):[Int!]! b:Thing@cost(n:7)}
type Mutation{a:E}
type Tree implements Thing{b:Place@cost(n:50)}
type Pond implements Place{a:Int}
interface Place{a:Int}
interface Thing{b(i:I={x:null}):Place@cost(n:3)}
interface Bare{c:Int}
union Some=Tree|Pond
union Whole=Pond|Query|Tree
enum E{X Y}
input I{x:Int=5 y:I}
scalar S`

func parse(t *testing.T, s string) api.Schema {
	t.Helper()
	x, at, e := sdl.Parse(s)
	if e != api.OK {
		t.Fatalf("%q is no schema: %d, %d", s, at, e)
	}
	return x
}

// place is where the first type of a name stands.
func place(t *testing.T, x api.Schema, name string) int {
	t.Helper()
	at := slices.IndexFunc(x.Types, func(y api.TypeDef) bool { return y.Name == name })
	if at < 0 {
		t.Fatalf("there is no %q", name)
	}
	return at
}

// named is a type without anything else.
func named(kind int, name string, names ...string) api.TypeDef {
	return api.TypeDef{Kind: kind, Name: name, Names: names}
}

// withFields gives each field a cost of its own.
func withFields(y api.TypeDef, names ...string) api.TypeDef {
	for i, name := range names {
		y.Fields = append(y.Fields, api.FieldDef{Name: name, Type: api.Type{Name: "E"}, Cost: 11 + i})
	}
	return y
}

// P9.1, Find and Kind: what is there.
func TestFind(t *testing.T) {
	x := parse(t, house)
	for i, want := range x.Types {
		if got, ok := schema.Find(x, want.Name); !ok || !reflect.DeepEqual(got, want) {
			t.Errorf("Find of %q is %+v, %v", want.Name, got, ok)
		}
		kinds := []int{api.Object, api.Object, api.Object, api.Object, api.Face, api.Face, api.Face, api.Union, api.Union, api.Enums, api.Inputs, api.Scalar}
		if got := schema.Kind(x, want.Name); got != kinds[i] {
			t.Errorf("Kind of %q is %d", want.Name, got)
		}
	}
	for _, x := range []api.Schema{x, {}, {Query: "Int", Mutation: "ID"}} {
		for _, name := range []string{"Int", "Float", "String", "Boolean", "ID"} {
			got, ok := schema.Find(x, name)
			if want := named(api.Scalar, name); !ok || !reflect.DeepEqual(got, want) || schema.Kind(x, name) != api.Scalar {
				t.Errorf("Find of %q is %+v, %v", name, got, ok)
			}
		}
	}
}

// P9.1, Find and Kind: what is not there is zero.
func TestFindNothing(t *testing.T) {
	x := parse(t, house)
	for _, x := range []api.Schema{x, {}, {Query: "Query", Mutation: "M"}, {Types: []api.TypeDef{}}} {
		for _, name := range []string{"", " ", "M", "query", "Quer", "Query ", "Query!", "[Query]", "a", "X", "x", "int", "INT", "Integer", "Bool", "Id", "Str", "Null", "Enum", "List", "__typename", "\xff", strings.Repeat("Q", 5000)} {
			got, ok := schema.Find(x, name)
			if ok || !reflect.DeepEqual(got, api.TypeDef{}) || schema.Kind(x, name) != 0 {
				t.Errorf("Find of %q is %+v, %v", name, got, ok)
			}
		}
	}
}

// P9.1: a name that two types have is the first one's, ahead of the five scalars; a Kind and a name may be any.
func TestFindFirst(t *testing.T) {
	x := api.Schema{Types: []api.TypeDef{
		named(api.Enums, "Int", "a"), named(0, "B", "b"), named(99, "C"), named(-1, "", "c"), named(api.Object, "a b"),
		named(api.Object, "B"), named(api.Scalar, "C"), named(api.Face, ""), named(api.Scalar, "Int"), named(api.Union, "a b"), named(0, "ID"), named(api.Union, "\xff"),
	}}
	for name, at := range map[string]int{"Int": 0, "B": 1, "C": 2, "": 3, "a b": 4, "ID": 10, "\xff": 11} {
		got, ok := schema.Find(x, name)
		if want := x.Types[at]; !ok || !reflect.DeepEqual(got, want) || schema.Kind(x, name) != want.Kind {
			t.Errorf("Find of %q is %+v, %v; Kind %d", name, got, ok, schema.Kind(x, name))
		}
	}
}

// P9.1, Field: what is there.
func TestField(t *testing.T) {
	x := parse(t, house)
	for _, y := range x.Types {
		for _, want := range y.Fields {
			if got, ok := schema.Field(x, y.Name, want.Name); !ok || !reflect.DeepEqual(got, want) {
				t.Errorf("Field %q of %q is %+v, %v", want.Name, y.Name, got, ok)
			}
		}
		want := api.FieldDef{Name: "__typename", Type: api.Type{Name: "String", Wraps: "!"}, Cost: 1}
		composite := y.Kind == api.Object || y.Kind == api.Face || y.Kind == api.Union
		if !composite {
			want = api.FieldDef{}
		}
		if got, ok := schema.Field(x, y.Name, "__typename"); ok != composite || !reflect.DeepEqual(got, want) {
			t.Errorf("Field __typename of %q is %+v, %v", y.Name, got, ok)
		}
	}
}

// P9.1, Field: what is not there is zero.
func TestFieldNothing(t *testing.T) {
	x := parse(t, house)
	for _, row := range []string{
		"Query c", "Query A", "Query aa", "Query ", "Query x", "Query Query", "Query __type", "Query __typenam", "Query __typename!", "Query _typename", "Mutation b", "Tree a", "Pond b", "Place b", "Bare a",
		"Some a", "Some b", "Some Tree", "Some ", "Whole a", "E X", "E a", "I x", "I y", "S a", "Int a", "ID ", "Nope a", "Nope __typename", " a", " __typename", " ", "Int __typename", "String __typename", "query a",
	} {
		of, name, _ := strings.Cut(row, " ")
		if got, ok := schema.Field(x, of, name); ok || !reflect.DeepEqual(got, api.FieldDef{}) {
			t.Errorf("Field %q of %q is %+v, %v", name, of, got, ok)
		}
	}
}

// P9.1, Field: a type of each kind that has fields, some of them twice, some of a given name.
func TestFieldOfKinds(t *testing.T) {
	for kind := -1; kind < 9; kind++ {
		y := withFields(named(kind, "A", "B"), "b", "a", "", "b", "__typename", "\xff", "a")
		x := api.Schema{Types: []api.TypeDef{y, withFields(named(api.Object, "A"), "other"), withFields(named(kind, "Int"), "a")}}
		own, given := kind == api.Object || kind == api.Face, kind == api.Object || kind == api.Face || kind == api.Union
		for name, cost := range map[string]int{"b": 11, "a": 12, "": 13, "\xff": 16, "other": 0} {
			want, wantOk := api.FieldDef{}, own && cost > 0
			if wantOk {
				want = api.FieldDef{Name: name, Type: api.Type{Name: "E"}, Cost: cost}
			}
			if got, ok := schema.Field(x, "A", name); ok != wantOk || !reflect.DeepEqual(got, want) {
				t.Errorf("of kind %d %q is %+v, %v", kind, name, got, ok)
			}
		}
		if got, ok := schema.Field(x, "A", "__typename"); ok != given || given && (got.Cost != 1 || got.Type != api.Type{Name: "String", Wraps: "!"}) {
			t.Errorf("of kind %d __typename is %+v, %v", kind, got, ok)
		}
		if got, ok := schema.Field(x, "Int", "a"); ok != own || got.Cost != map[bool]int{true: 11}[own] {
			t.Errorf("of kind %d it is %+v, %v", kind, got, ok)
		}
	}
}

func holdPossible(t *testing.T, x api.Schema, all map[string]string) {
	t.Helper()
	for name, want := range all {
		if got := schema.Possible(x, name); !slices.Equal(got, strings.Fields(want)) {
			t.Errorf("Possible of %q is %q, not %q", name, got, want)
		}
	}
}

// P9.1, Possible.
func TestPossible(t *testing.T) {
	holdPossible(t, parse(t, house), map[string]string{
		"Query": "Query", "Mutation": "Mutation", "Tree": "Tree", "Pond": "Pond",
		"Place": "Query Pond", "Thing": "Query Tree", "Bare": "", "Some": "Tree Pond", "Whole": "Query Tree Pond",
		"E": "", "I": "", "S": "", "Int": "", "ID": "", "Nope": "", "": "", "X": "", "query": "",
	})
	holdPossible(t, api.Schema{Query: "Query"}, map[string]string{"Query": "", "Int": "", "": ""})
}

// P9.1, Possible: of schemas that may not be.
func TestPossibleOdd(t *testing.T) {
	x := api.Schema{Types: []api.TypeDef{
		named(api.Object, "B", "F", "F", "U", "B", "E"), named(api.Enums, "E", "F", "B"), named(api.Face, "F", "G", "A"), named(api.Object, "A", "G", "Nope", "K"),
		named(api.Object, "B", "G"), named(api.Object, "E", "F"), named(api.Object, "F", "F"), named(api.Scalar, "A", "F"), named(api.Face, "A", "F"),
		named(api.Union, "U", "A", "B", "F", "U", "E", "V", "A", "Nope", "Int", ""), named(api.Union, "V", "U"), named(api.Face, "G"), named(api.Face, "U"), named(api.Inputs, "H", "F"), named(9, "K", "A"),
		named(api.Object, "", "G"), named(api.Object, "Int", "K", "G"),
	}}
	holdPossible(t, x, map[string]string{
		"A": "A", "B": "B", "Int": "Int", "E": "", "F": "B", "V": "", "H": "", "K": "", "Nope": "", "ID": "",
	})
	for name, want := range map[string][]string{"": {""}, "G": {"A", "", "Int"}, "U": {"B", "A", "", "Int"}} {
		if got := schema.Possible(x, name); !slices.Equal(got, want) {
			t.Errorf("Possible of %q is %q, not %q", name, got, want)
		}
	}
}

// P9.1, Meets.
func TestMeets(t *testing.T) {
	x := parse(t, house)
	all := strings.Fields("Query Mutation Tree Pond Place Thing Bare Some Whole E I S Int Nope -")
	for i, row := range []string{
		"Query/Query Place Thing Whole", "Mutation/Mutation", "Tree/Tree Thing Some Whole", "Pond/Pond Place Some Whole",
		"Place/Query Pond Place Thing Some Whole", "Thing/Query Tree Place Thing Some Whole", "Bare/", "Some/Tree Pond Place Thing Some Whole", "Whole/Query Tree Pond Place Thing Some Whole",
		"E/", "I/", "S/", "Int/", "Nope/", "-/",
	} {
		a, met, _ := strings.Cut(row, "/")
		if a != all[i] {
			t.Fatal(a)
		}
		for _, b := range all {
			want := slices.Contains(strings.Fields(met), b)
			if got := schema.Meets(x, strings.Trim(a, "-"), strings.Trim(b, "-")); got != want {
				t.Errorf("Meets(%q, %q) is %v", a, b, got)
			}
		}
	}
}

// P9.1, Meets: the first of a name counts, as in Possible.
func TestMeetsOdd(t *testing.T) {
	x := api.Schema{Types: []api.TypeDef{
		named(api.Enums, "E"), named(api.Object, "A", "F"), named(api.Object, "A", "G"), named(api.Object, "E", "F", "G"),
		named(api.Face, "F"), named(api.Face, "G"), named(api.Union, "U", "E", "A"), named(api.Union, "V", "E"), named(api.Object, "B", "H"), named(api.Object, "C", "G"), named(api.Face, "H"),
	}}
	for row, want := range map[string]bool{"F G": false, "F U": true, "G U": false, "V V": false, "E E": false, "U V": false, "A G": false, "A F": true, "G G": true, "C G": true, "H G": false, "H B": true, "F F": true} {
		a, b, _ := strings.Cut(row, " ")
		if schema.Meets(x, a, b) != want || schema.Meets(x, b, a) != want {
			t.Errorf("Meets(%q, %q) is not %v", a, b, want)
		}
	}
}
