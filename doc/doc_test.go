package doc_test

import (
	"reflect"
	"strings"
	"testing"

	"refectory/api"
	"refectory/doc"
	"refectory/lex"
	"refectory/runes"
	"refectory/value"
)

type sel = api.Sel

func field(name string, sels ...sel) sel { return sel{Kind: api.Field, Name: name, Sels: sels} }
func spread(name string) sel             { return sel{Kind: api.Spread, Name: name} }
func inline(on string, sels ...sel) sel  { return sel{Kind: api.Inline, On: on, Sels: sels} }
func arg(name string, v api.Value) api.Arg {
	return api.Arg{Name: name, Value: v}
}
func dir(name string, args ...api.Arg) api.Dir { return api.Dir{Name: name, Args: args} }

// with is s with these arguments and directives.
func with(s sel, args []api.Arg, dirs ...api.Dir) sel {
	s.Args, s.Dirs = args, dirs
	return s
}

func alias(name string, s sel) sel {
	s.Alias = name
	return s
}

// query is a document of one operation.
func query(sels ...sel) api.Doc { return api.Doc{Ops: []api.Op{{Sels: sels}}} }

// fragment is a document of one fragment.
func fragment(name, on string, sels ...sel) api.Doc {
	return api.Doc{Frags: []api.Frag{{Name: name, On: on, Sels: sels}}}
}

func vars(l ...api.VarDef) api.Doc {
	return api.Doc{Ops: []api.Op{{Vars: l, Sels: []sel{field("a")}}}}
}

var (
	one = api.Value{Kind: api.Int, S: "1"}
	dol = api.Value{Kind: api.Var, S: "v"}
)

// exact takes nil and an empty list for one, anywhere in it.
func exact(a, b any) bool {
	return exactly(reflect.ValueOf(a), reflect.ValueOf(b))
}

func exactly(a, b reflect.Value) bool {
	switch a.Kind() {
	case reflect.Struct:
		for i := range a.NumField() {
			if !exactly(a.Field(i), b.Field(i)) {
				return false
			}
		}
		return true
	case reflect.Slice:
		if a.Len() != b.Len() {
			return false
		}
		for i := range a.Len() {
			if !exactly(a.Index(i), b.Index(i)) {
				return false
			}
		}
		return true
	}
	return a.Equal(b)
}

func tokens(t *testing.T, s string) []lex.Token {
	t.Helper()
	l, at, errno := lex.All(s)
	if errno != api.OK {
		t.Fatalf("All(%.80q) is %d, %d", s, at, errno)
	}
	return l
}

// written is a token as it is written.
func written(token lex.Token) string {
	if token.Kind == lex.Str {
		return runes.Quote(token.S)
	}
	return token.S
}

// wantDoc asks for a document however its tokens are set apart; by P6.4 it may be.
func wantDoc(t *testing.T, s string, want api.Doc) {
	t.Helper()
	apart := ""
	for _, token := range tokens(t, s) {
		apart += ",\t" + written(token) + "\r\n#x}{\n "
	}
	for _, s := range []string{s, apart} {
		if d, at, errno := doc.Parse(s); errno != api.OK || at != 0 || !exact(d, want) || !doc.Check(d) {
			t.Errorf("Parse(%q) is %+v, %d, %d, not %+v; Check %v", s, d, at, errno, want, doc.Check(d))
		}
	}
}

func wantErrno(t *testing.T, s string, wantAt int, want api.Errno) {
	t.Helper()
	if d, at, errno := doc.Parse(s); at != wantAt || errno != want || !reflect.DeepEqual(d, api.Doc{}) {
		t.Errorf("Parse(%.90q) is %+v, %d, %d, not %d, %d", s, d, at, errno, wantAt, want)
	}
}

// P6.1, fields.
func TestFields(t *testing.T) {
	args := []api.Arg{arg("x", one)}
	for s, want := range map[string]api.Doc{
		"{a}":                    query(field("a")),
		"{a b a}":                query(field("a"), field("b"), field("a")),
		"{a:b}":                  query(alias("a", field("b"))),
		"{a:a b}":                query(alias("a", field("a")), field("b")),
		"{a b:c d}":              query(field("a"), alias("b", field("c")), field("d")),
		"{a{b}}":                 query(field("a", field("b"))),
		"{a{b{c}}d}":             query(field("a", field("b", field("c"))), field("d")),
		"{a(x:1)}":               query(with(field("a"), args)),
		"{a:b(x:1){c}}":          query(with(alias("a", field("b", field("c"))), args)),
		"{a(x:1 x:1,y:$v)}":      query(with(field("a"), []api.Arg{arg("x", one), arg("x", one), arg("y", dol)})),
		"{a@d}":                  query(with(field("a"), nil, dir("d"))),
		"{a(x:1)@d@e(x:1)@d{b}}": query(with(field("a", field("b")), args, dir("d"), dir("e", args...), dir("d"))),
		"{on query:mutation fragment true{null}}": query(field("on"), alias("query", field("mutation")), field("fragment"), field("true", field("null"))),
		"{a(on:on null:null)@on(query:query)}": query(with(field("a"), []api.Arg{arg("on", api.Value{Kind: api.Enum, S: "on"}), arg("null", api.Value{Kind: api.Null})},
			dir("on", arg("query", api.Value{Kind: api.Enum, S: "query"})))),
	} {
		wantDoc(t, s, want)
	}
}

// P6.1, spreads and inline fragments.
func TestFragmentsInSets(t *testing.T) {
	args := []api.Arg{arg("x", one)}
	for s, want := range map[string]api.Doc{
		"{...F}":                 query(spread("F")),
		"{...F a ...G}":          query(spread("F"), field("a"), spread("G")),
		"{...F@d(x:1)@e}":        query(with(spread("F"), nil, dir("d", args...), dir("e"))),
		"{...query ...fragment}": query(spread("query"), spread("fragment")),
		"{...On ...o ...onn}":    query(spread("On"), spread("o"), spread("onn")),
		"{...{a}}":               query(inline("", field("a"))),
		"{...on T{a}}":           query(inline("T", field("a"))),
		"{...on on{on}}":         query(inline("on", field("on"))),
		"{...@d{a}}":             query(with(inline("", field("a")), nil, dir("d"))),
		"{...on T@d(x:1)@e{a}b}": query(with(inline("T", field("a")), nil, dir("d", args...), dir("e")), field("b")),
		"{...{...on T{...F}}}":   query(inline("", inline("T", spread("F")))),
		"{a{...F}b{...{c}}}":     query(field("a", spread("F")), field("b", inline("", field("c")))),
	} {
		wantDoc(t, s, want)
	}
}

// P6.1, operations and fragments.
func TestDefinitions(t *testing.T) {
	set := []sel{field("a")}
	x := arg("x", one)
	for s, want := range map[string]api.Doc{
		"query{a}":       query(field("a")),
		"query Q{a}":     {Ops: []api.Op{{Name: "Q", Sels: set}}},
		"mutation{a}":    {Ops: []api.Op{{Mutation: true, Sels: set}}},
		"mutation M{a}":  {Ops: []api.Op{{Mutation: true, Name: "M", Sels: set}}},
		"query query{a}": {Ops: []api.Op{{Name: "query", Sels: set}}},
		"query mutation{a}mutation on{a}query fragment{a}": {Ops: []api.Op{{Name: "mutation", Sels: set}, {Mutation: true, Name: "on", Sels: set}, {Name: "fragment", Sels: set}}},
		"query@d{a}":                  {Ops: []api.Op{{Dirs: []api.Dir{dir("d")}, Sels: set}}},
		"mutation M@d@e(x:1 y:$v){a}": {Ops: []api.Op{{Mutation: true, Name: "M", Dirs: []api.Dir{dir("d"), dir("e", x, arg("y", dol))}, Sels: set}}},
		"{a}{a}":                      {Ops: []api.Op{{Sels: set}, {Sels: set}}},
		"{a}query Q{a}":               {Ops: []api.Op{{Sels: set}, {Name: "Q", Sels: set}}},
		"fragment F on T{a}":          fragment("F", "T", set...),
		"fragment F on T@d(x:1)@e{a}": {Frags: []api.Frag{{Name: "F", On: "T", Dirs: []api.Dir{dir("d", x), dir("e")}, Sels: set}}},
		"fragment fragment on on{a}":  fragment("fragment", "on", set...),
		"fragment F on T{a}{a}":       {Ops: []api.Op{{Sels: set}}, Frags: []api.Frag{{Name: "F", On: "T", Sels: set}}},
		"fragment G on T{a}query Q{a}fragment F on U{a}mutation{a}fragment G on T{a}": {
			Ops:   []api.Op{{Name: "Q", Sels: set}, {Mutation: true, Sels: set}},
			Frags: []api.Frag{{Name: "G", On: "T", Sels: set}, {Name: "F", On: "U", Sels: set}, {Name: "G", On: "T", Sels: set}},
		},
	} {
		wantDoc(t, s, want)
	}
}

// P6.1, variables.
func TestVariables(t *testing.T) {
	in := api.Type{Name: "Int"}
	for s, want := range map[string]api.Doc{
		"query($a:Int){a}":              vars(api.VarDef{Name: "a", Type: in}),
		"query($a:Int$b:[Int!]!){a}":    vars(api.VarDef{Name: "a", Type: in}, api.VarDef{Name: "b", Type: api.Type{Name: "Int", Wraps: "!]!"}}),
		"query($a:Int$a:Int){a}":        vars(api.VarDef{Name: "a", Type: in}, api.VarDef{Name: "a", Type: in}),
		"query($on:on=on){a}":           vars(api.VarDef{Name: "on", Type: api.Type{Name: "on"}, Default: api.Value{Kind: api.Enum, S: "on"}}),
		"query($a:Int=null){a}":         vars(api.VarDef{Name: "a", Type: in, Default: api.Value{Kind: api.Null}}),
		"query($a:Int!=1$b:Int=[]){a}":  vars(api.VarDef{Name: "a", Type: api.Type{Name: "Int", Wraps: "!"}, Default: one}, api.VarDef{Name: "b", Type: in, Default: api.Value{Kind: api.List}}),
		`query($a:Int={b:["$" 1]}){a}`:  vars(api.VarDef{Name: "a", Type: in, Default: api.Value{Kind: api.Obj, Names: []string{"b"}, List: []api.Value{{Kind: api.List, List: []api.Value{{Kind: api.Str, S: "$"}, one}}}}}),
		`query($a:Int="$a"){a}`:         vars(api.VarDef{Name: "a", Type: in, Default: api.Value{Kind: api.Str, S: "$a"}}),
		"query($a:Int=1){a(b:$a c:$z)}": {Ops: []api.Op{{Vars: []api.VarDef{{Name: "a", Type: in, Default: one}}, Sels: []sel{with(field("a"), []api.Arg{arg("b", api.Value{Kind: api.Var, S: "a"}), arg("c", api.Value{Kind: api.Var, S: "z"})})}}}},
		"mutation M($a:Int)@d{a}":       {Ops: []api.Op{{Mutation: true, Name: "M", Vars: []api.VarDef{{Name: "a", Type: in}}, Dirs: []api.Dir{dir("d")}, Sels: []sel{field("a")}}}},
		"query($a:" + strings.Repeat("[", 12) + "A" + strings.Repeat("]", 12) + "){a}": vars(api.VarDef{Name: "a", Type: api.Type{Name: "A", Wraps: strings.Repeat("]", 12)}}),
	} {
		wantDoc(t, s, want)
	}
}

// P6.1: arguments are values as layer 5 reads them.
func TestArgumentValues(t *testing.T) {
	for _, s := range []string{"1", "-1.5e3", `"a\n\u0041"`, `"""
	 a
	   b"""`, "true", "false", "null", "RED", "$v", "[]", "[1 [$v] {a:b}]", "{}", "{a:{b:$v} a:[]}", strings.Repeat("[", 12) + "$v" + strings.Repeat("]", 12)} {
		v, _, errno := value.Value(tokens(t, s), 0)
		if errno != api.OK {
			t.Fatal(s)
		}
		wantDoc(t, "{a(x:"+s+")}", query(with(field("a"), []api.Arg{arg("x", v)})))
		wantDoc(t, "{...F@d(x:"+s+" y:1)}", query(with(spread("F"), nil, dir("d", arg("x", v), arg("y", one)))))
	}
}

// R3: a document is nobody else's, and no two of its lists share memory, room to grow in too.
func TestNewMemory(t *testing.T) {
	const s = "query Q($a:A=[1 2]$b:B={c:[1]})@d(x:1){a(x:[1 2]y:{z:[3]})@e@f{b c{d}}...F@g(x:$a)...on T@h{e f}}mutation{m}fragment F on T@i{a b}fragment G on T{a}"
	first, _, errno := doc.Parse(s)
	second, _, _ := doc.Parse(s)
	if errno != api.OK || !exact(first, second) {
		t.Fatal(first, second, errno)
	}
	type span struct{ from, to uintptr }
	var spans []span
	var gather func(v reflect.Value)
	gather = func(v reflect.Value) {
		switch v.Kind() {
		case reflect.Struct:
			for i := range v.NumField() {
				gather(v.Field(i))
			}
		case reflect.Slice:
			if size := uintptr(v.Cap()) * v.Type().Elem().Size(); size > 0 {
				spans = append(spans, span{v.Pointer(), v.Pointer() + size})
			}
			for i := range v.Len() {
				gather(v.Index(i))
			}
		}
	}
	gather(reflect.ValueOf(first))
	gather(reflect.ValueOf(second))
	for i, a := range spans {
		for _, b := range spans[:i] {
			if a.from < b.to && b.from < a.to {
				t.Errorf("lists share memory: %v, %v", a, b)
			}
		}
	}
}
