package sdl_test

import (
	"reflect"
	"strings"
	"testing"

	"refectory/api"
	"refectory/lex"
	"refectory/runes"
	"refectory/sdl"
)

// rich has each part that a schema's text may have.
const rich = `schema{query:Q mutation:M} scalar S type Q implements F&G{a:Int@cost(n:5) b(c:[I!]!=[{x:1}] d:E=RED):[U]@cost(n:1)} type M{m(s:S="s"):S@cost(n:-2)} interface F{a:Int@cost(n:1)} interface G{a:Int@cost(n:1)} union U=Q|M enum E{RED BLUE} input I{x:Int! y:S=null}`

func typed(name string) api.Type { return api.Type{Name: name} }

func in(name, of string) api.Input { return api.Input{Name: name, Type: typed(of)} }

func inWith(name, of string, v api.Value) api.Input {
	return api.Input{Name: name, Type: typed(of), Default: v}
}

func field(name, of string, args ...api.Input) api.FieldDef {
	return api.FieldDef{Name: name, Type: typed(of), Args: args, Cost: 1}
}

func costing(cost int, f api.FieldDef) api.FieldDef {
	f.Cost = cost
	return f
}

func scalar(name string) api.TypeDef { return api.TypeDef{Kind: api.Scalar, Name: name} }

func object(name string, fields ...api.FieldDef) api.TypeDef {
	return api.TypeDef{Kind: api.Object, Name: name, Fields: fields}
}

func face(name string, fields ...api.FieldDef) api.TypeDef {
	return api.TypeDef{Kind: api.Face, Name: name, Fields: fields}
}

func union(name string, names ...string) api.TypeDef {
	return api.TypeDef{Kind: api.Union, Name: name, Names: names}
}

func enum(name string, names ...string) api.TypeDef {
	return api.TypeDef{Kind: api.Enums, Name: name, Names: names}
}

func input(name string, inputs ...api.Input) api.TypeDef {
	return api.TypeDef{Kind: api.Inputs, Name: name, Inputs: inputs}
}

func with(t api.TypeDef, faces ...string) api.TypeDef {
	t.Names = faces
	return t
}

// schema has the roots that a text without a definition of them has.
func schema(types ...api.TypeDef) api.Schema { return api.Schema{Query: "Query", Types: types} }

func num(s string) api.Value        { return api.Value{Kind: api.Int, S: s} }
func text(s string) api.Value       { return api.Value{Kind: api.Str, S: s} }
func word(s string) api.Value       { return api.Value{Kind: api.Enum, S: s} }
func list(l ...api.Value) api.Value { return api.Value{Kind: api.List, List: l} }
func named(n string, v api.Value) api.Value {
	return api.Value{Kind: api.Obj, Names: []string{n}, List: []api.Value{v}}
}

// exact takes nil and an empty list for one, anywhere in it.
func exact(a, b any) bool {
	return exactly(reflect.ValueOf(a), reflect.ValueOf(b))
}

func exactly(a, b reflect.Value) bool {
	parts, part := 0, reflect.Value.Field
	switch a.Kind() {
	case reflect.Struct:
		parts = a.NumField()
	case reflect.Slice:
		parts, part = a.Len(), reflect.Value.Index
		if b.Len() != parts {
			return false
		}
	default:
		return a.Equal(b)
	}
	for i := range parts {
		if !exactly(part(a, i), part(b, i)) {
			return false
		}
	}
	return true
}

func tokens(t *testing.T, s string) []lex.Token {
	t.Helper()
	l, at, errno := lex.All(s)
	if errno != api.OK {
		t.Fatalf("All(%.80q) is %d, %d", s, at, errno)
	}
	return l
}

// written is a token as it is written.
func written(token lex.Token) string {
	if token.Kind == lex.Str {
		return runes.Quote(token.S)
	}
	return token.S
}

// wantSchema asks for a schema however its tokens are set apart, and for the same from its text.
func wantSchema(t *testing.T, s string, want api.Schema) {
	t.Helper()
	apart := ""
	for _, token := range tokens(t, s) {
		apart += ",\t" + written(token) + "\r\n#x}{\n "
	}
	for _, s := range []string{s, apart, sdl.Text(want)} {
		if x, at, errno := sdl.Parse(s); errno != api.OK || at != 0 || !exact(x, want) {
			t.Errorf("Parse(%q) is %+v, %d, %d, not %+v", s, x, at, errno, want)
		}
	}
}

// P8.1: each definition.
func TestDefinitions(t *testing.T) {
	a := field("a", "Int")
	for s, want := range map[string]api.Schema{
		"":                                     schema(),
		"scalar S":                             schema(scalar("S")),
		"scalar scalar scalar type":            schema(scalar("scalar"), scalar("type")),
		"type T{a:Int}":                        schema(object("T", a)),
		"type T{a:Int b:S}":                    schema(object("T", a, field("b", "S"))),
		"type T implements F{a:Int}":           schema(with(object("T", a), "F")),
		"type T implements F&G&F{a:Int}":       schema(with(object("T", a), "F", "G", "F")),
		"type implements implements F{a:Int}":  schema(with(object("implements", a), "F")),
		"type T implements implements{a:Int}":  schema(with(object("T", a), "implements")),
		"type implements{implements:Int}":      schema(object("implements", field("implements", "Int"))),
		"interface F{a:Int}":                   schema(face("F", a)),
		"interface interface{a:Int a:S}":       schema(face("interface", a, field("a", "S"))),
		"union U=A":                            schema(union("U", "A")),
		"union U=A|B|A":                        schema(union("U", "A", "B", "A")),
		"union union=union|type":               schema(union("union", "union", "type")),
		"union U=A scalar B":                   schema(union("U", "A"), scalar("B")),
		"enum E{A}":                            schema(enum("E", "A")),
		"enum E{A B A}":                        schema(enum("E", "A", "B", "A")),
		"enum enum{true false null enum type}": schema(enum("enum", "true", "false", "null", "enum", "type")),
		"input I{a:Int}":                       schema(input("I", in("a", "Int"))),
		"input input{input:input b:S}":         schema(input("input", in("input", "input"), in("b", "S"))),
		"scalar S scalar S":                    schema(scalar("S"), scalar("S")),
		"input I{a:Int}union U=A enum E{A}interface F{a:Int}type T{a:Int}scalar S": schema(input("I", in("a", "Int")), union("U", "A"), enum("E", "A"), face("F", a), object("T", a), scalar("S")),
	} {
		wantSchema(t, s, want)
	}
}

// P8.1: fields and inputs, and what they cost and are without it.
func TestFields(t *testing.T) {
	deep := strings.Repeat("[", 12) + "A" + strings.Repeat("]", 12)
	for s, want := range map[string]api.FieldDef{
		"a:Int":                     field("a", "Int"),
		"type:type":                 field("type", "type"),
		"a:Int!":                    {Name: "a", Type: api.Type{Name: "Int", Wraps: "!"}, Cost: 1},
		"a:[[Int!]]!":               {Name: "a", Type: api.Type{Name: "Int", Wraps: "!]]!"}, Cost: 1},
		"a:" + deep:                 {Name: "a", Type: api.Type{Name: "A", Wraps: strings.Repeat("]", 12)}, Cost: 1},
		"a(b:Int):S":                field("a", "S", in("b", "Int")),
		"a(b:Int b:Int c:S):S":      field("a", "S", in("b", "Int"), in("b", "Int"), in("c", "S")),
		"a(b:[Int!]!):S":            field("a", "S", api.Input{Name: "b", Type: api.Type{Name: "Int", Wraps: "!]!"}}),
		"a(b:Int=1):S":              field("a", "S", inWith("b", "Int", num("1"))),
		"a(b:Int=1 c:Int=-2):S":     field("a", "S", inWith("b", "Int", num("1")), inWith("c", "Int", num("-2"))),
		"a(b:Int!=1 c:[S]=[]):S":    field("a", "S", api.Input{Name: "b", Type: api.Type{Name: "Int", Wraps: "!"}, Default: num("1")}, api.Input{Name: "c", Type: api.Type{Name: "S", Wraps: "]"}, Default: list()}),
		"a(b:E=RED c:E=null):S":     field("a", "S", inWith("b", "E", word("RED")), inWith("c", "E", api.Value{Kind: api.Null})),
		"a(b:Int=b b:Int):S":        field("a", "S", inWith("b", "Int", word("b")), in("b", "Int")),
		`a(b:S="$x" c:S="b:Int"):S`: field("a", "S", inWith("b", "S", text("$x")), inWith("c", "S", text("b:Int"))),
		"a(b:I={x:[1.5 {y:true}] x:{}}):S": field("a", "S", inWith("b", "I", api.Value{Kind: api.Obj, Names: []string{"x", "x"}, List: []api.Value{
			list(api.Value{Kind: api.Dec, S: "1.5"}, named("y", api.Value{Kind: api.Bool, S: "true"})), {Kind: api.Obj}}})),
		"a:Int@cost(n:7)":               costing(7, field("a", "Int")),
		"cost:cost!@cost(n:1)":          {Name: "cost", Type: api.Type{Name: "cost", Wraps: "!"}, Cost: 1},
		"n(cost:n=n n:n=1):n@cost(n:2)": costing(2, field("n", "n", inWith("cost", "n", word("n")), inWith("n", "n", num("1")))),
	} {
		wantSchema(t, "type T{"+s+"}", schema(object("T", want)))
		wantSchema(t, "interface F{"+s+" z:Int "+s+"}", schema(face("F", want, field("z", "Int"), want)))
		if len(want.Args) > 0 && want.Cost == 1 {
			inner := s[strings.Index(s, "(")+1 : strings.LastIndex(s, ")")]
			wantSchema(t, "input I{"+inner+"}", schema(input("I", want.Args...)))
		}
	}
}

// P8.1: what a number says of a cost.
func TestCosts(t *testing.T) {
	for n, want := range map[string]int{
		"0": 0, "1": 1, "50": 50, "51": 51, "99999": 99999, "100000": 100000, "999998": 999998, "999999": 999999,
		"1000000": 1000000, "1000001": 1000000, "2000000": 1000000, "4294967297": 1000000, "9223372036854775807": 1000000, "18446744073709551617": 1000000, "1" + strings.Repeat("0", 39): 1000000,
		"-0": 0, "-1": -1, "-50": -50, "-999999": -999999, "-1000000": -1000000, "-1000001": -1000000, "-9223372036854775808": -1000000, "-1" + strings.Repeat("0", 38): -1000000,
	} {
		wantSchema(t, "type T{a:Int@cost(n:"+n+")}", schema(object("T", costing(want, field("a", "Int")))))
		wantSchema(t, "interface T{a:Int@cost(n:"+n+") b:Int}", schema(face("T", costing(want, field("a", "Int")), field("b", "Int"))))
	}
}

// P8.1: a text ahead of a part says nothing.
func TestTextsAhead(t *testing.T) {
	x, _, _ := sdl.Parse(rich)
	if sdl.Text(x) != rich {
		t.Fatalf("the rich one is %q", sdl.Text(x))
	}
	for _, about := range []string{`""`, `"about"`, `"a:Int}"`, `"""block"""`, `"\"\n"`} {
		for part, s := range map[string]string{"schema{": "schema", "scalar ": "scalar", "type ": "type", "interface ": "interface", "union ": "union", "enum ": "enum", "input ": "input", "a:": "field", "b(": "field", "c:": "argument", "d:": "argument", "s:": "argument", "RED ": "value", "BLUE": "value", "x:Int!": "input's field", " y:": "input's field"} {
			if got, at, errno := sdl.Parse(strings.ReplaceAll(rich, part, " "+about+part)); errno != api.OK || at != 0 || !exact(got, x) {
				t.Errorf("%s ahead of a %s (%s): %+v, %d, %d", about, s, part, got, at, errno)
			}
		}
	}
	wantSchema(t, `"x"type T{"x"a("x"b:S="d""x"c:S):Int}"x"enum E{"x"A,"x"B}`, schema(object("T", field("a", "Int", inWith("b", "S", text("d")), in("c", "S"))), enum("E", "A", "B")))
}

// P8.1, P8.2: what queries and mutations begin with.
func TestRoots(t *testing.T) {
	a := field("a", "Int")
	for s, want := range map[string]api.Schema{
		"type Query{a:Int}":                     schema(object("Query", a)),
		"type A{a:Int}":                         schema(object("A", a)),
		"type Mutation{a:Int}":                  {Query: "Query", Mutation: "Mutation", Types: []api.TypeDef{object("Mutation", a)}},
		"scalar A union Mutation=A":             {Query: "Query", Mutation: "Mutation", Types: []api.TypeDef{scalar("A"), union("Mutation", "A")}},
		"scalar Mutation scalar Mutation":       {Query: "Query", Mutation: "Mutation", Types: []api.TypeDef{scalar("Mutation"), scalar("Mutation")}},
		"scalar mutation":                       schema(scalar("mutation")),
		"type T{Mutation:Mutation}":             schema(object("T", field("Mutation", "Mutation"))),
		"enum E{Mutation}":                      schema(enum("E", "Mutation")),
		"schema{query:A}":                       {Query: "A"},
		"schema{query:A mutation:B}":            {Query: "A", Mutation: "B"},
		"schema{query:query mutation:mutation}": {Query: "query", Mutation: "mutation"},
		"schema{query:mutation}":                {Query: "mutation"},
		"schema{query:A mutation:A}":            {Query: "A", Mutation: "A"},
		"schema{query:Query}":                   {Query: "Query"},
		"schema{query:A}scalar Mutation":        {Query: "A", Types: []api.TypeDef{scalar("Mutation")}},
		"scalar Mutation schema{query:A}":       {Query: "A", Types: []api.TypeDef{scalar("Mutation")}},
		"scalar S schema{query:A}scalar T":      {Query: "A", Types: []api.TypeDef{scalar("S"), scalar("T")}},
		"scalar schema schema{query:schema}":    {Query: "schema", Types: []api.TypeDef{scalar("schema")}},
		"schema{query:A}scalar schema":          {Query: "A", Types: []api.TypeDef{scalar("schema")}},
	} {
		wantSchema(t, s, want)
	}
}

// P8.2: there is no bound but that of bytes.
func TestManyParts(t *testing.T) {
	many := strings.Repeat("a ", 3990)
	if x, at, errno := sdl.Parse("enum E{" + many + "}"); errno != api.OK || at != 0 || len(x.Types) != 1 || len(x.Types[0].Names) != 3990 {
		t.Errorf("many names: %d, %d", at, errno)
	}
	if x, at, errno := sdl.Parse(strings.Repeat("scalar A ", 888)); errno != api.OK || at != 0 || len(x.Types) != 888 {
		t.Errorf("many types: %d, %d", at, errno)
	}
	if x, at, errno := sdl.Parse("input I{" + strings.Repeat("a:A ", 1997) + "}"); errno != api.OK || at != 0 || len(x.Types) != 1 || len(x.Types[0].Inputs) != 1997 {
		t.Errorf("many inputs: %d, %d", at, errno)
	}
}

// R3: a schema is nobody else's, and no two of its lists share memory, room to grow in too.
func TestNewMemory(t *testing.T) {
	const s = "type T implements F&G{a(b:[Int]=[1 2]c:I={d:[1]}):Int b:Int c(d:Int):Int}union U=A|B|C enum E{A B C}input I{a:I={b:1 c:2}b:Int c:Int}interface F{a:Int}"
	first, _, errno := sdl.Parse(s)
	second, _, _ := sdl.Parse(s)
	if errno != api.OK || !exact(first, second) {
		t.Fatal(first, second, errno)
	}
	type span struct{ from, to uintptr }
	var spans []span
	var gather func(v reflect.Value)
	gather = func(v reflect.Value) {
		switch v.Kind() {
		case reflect.Struct:
			for i := range v.NumField() {
				gather(v.Field(i))
			}
		case reflect.Slice:
			if size := uintptr(v.Cap()) * v.Type().Elem().Size(); size > 0 {
				spans = append(spans, span{v.Pointer(), v.Pointer() + size})
			}
			for i := range v.Len() {
				gather(v.Index(i))
			}
		}
	}
	gather(reflect.ValueOf(first))
	gather(reflect.ValueOf(second))
	for i, a := range spans {
		for _, b := range spans[:i] {
			if a.from < b.to && b.from < a.to {
				t.Errorf("lists share memory: %v, %v", a, b)
			}
		}
	}
}
