package print_test

import (
	"reflect"
	"strings"
	"testing"

	"refectory/api"
	"refectory/doc"
	"refectory/print"
)

type sel = api.Sel

var (
	one  = api.Value{Kind: api.Int, S: "1"}
	none = api.Value{}
)

func field(name string, sels ...sel) sel { return sel{Kind: api.Field, Name: name, Sels: sels} }
func spread(name string) sel             { return sel{Kind: api.Spread, Name: name} }
func inline(on string, sels ...sel) sel  { return sel{Kind: api.Inline, On: on, Sels: sels} }
func text(s string) api.Value            { return api.Value{Kind: api.Str, S: s} }
func word(s string) api.Value            { return api.Value{Kind: api.Enum, S: s} }
func list(l ...api.Value) api.Value      { return api.Value{Kind: api.List, List: l} }
func variable(s string) api.Value        { return api.Value{Kind: api.Var, S: s} }
func arg(name string, v api.Value) api.Arg {
	return api.Arg{Name: name, Value: v}
}

func object(name string, v api.Value) api.Value {
	return api.Value{Kind: api.Obj, Names: []string{name}, List: []api.Value{v}}
}

func dir(name string, args ...api.Arg) api.Dir { return api.Dir{Name: name, Args: args} }

func withArgs(s sel, args ...api.Arg) sel {
	s.Args = args
	return s
}

func withDirs(s sel, dirs ...api.Dir) sel {
	s.Dirs = dirs
	return s
}

func alias(name string, s sel) sel {
	s.Alias = name
	return s
}

func query(sels ...sel) api.Doc { return api.Doc{Ops: []api.Op{{Sels: sels}}} }

func vars(l ...api.VarDef) api.Doc {
	return api.Doc{Ops: []api.Op{{Vars: l, Sels: []sel{field("a")}}}}
}

func fragment(name, on string, sels ...sel) api.Doc {
	return api.Doc{Frags: []api.Frag{{Name: name, On: on, Sels: sels}}}
}

// P7.1, P7.2: each part of a document.
func TestDoc(t *testing.T) {
	a := []sel{field("a")}
	typed := func(name, wraps string) api.Type { return api.Type{Name: name, Wraps: wraps} }
	for _, c := range []struct {
		want string
		d    api.Doc
	}{
		{"query{a}", query(a...)},
		{"query Q{a}", api.Doc{Ops: []api.Op{{Name: "Q", Sels: a}}}},
		{"query query{query}", api.Doc{Ops: []api.Op{{Name: "query", Sels: []sel{field("query")}}}}},
		{"mutation{a}", api.Doc{Ops: []api.Op{{Mutation: true, Sels: a}}}},
		{"mutation M@d{a}", api.Doc{Ops: []api.Op{{Mutation: true, Name: "M", Dirs: []api.Dir{dir("d")}, Sels: a}}}},
		{"query Q($a:A)@d@e(x:1 y:$a){a}", api.Doc{Ops: []api.Op{{Name: "Q", Vars: []api.VarDef{{Name: "a", Type: typed("A", "")}}, Dirs: []api.Dir{dir("d"), dir("e", arg("x", one), arg("y", variable("a")))}, Sels: a}}}},

		{"query($a:A){a}", vars(api.VarDef{Name: "a", Type: typed("A", "")})},
		{"query($a:A! $b:[B!]! $c:[[C]]){a}", vars(api.VarDef{Name: "a", Type: typed("A", "!")}, api.VarDef{Name: "b", Type: typed("B", "!]!")}, api.VarDef{Name: "c", Type: typed("C", "]]")})},
		{"query($a:A!=1 $b:[B]=[1 \"s\"] $c:C={x:null}){a}", vars(api.VarDef{Name: "a", Type: typed("A", "!"), Default: one}, api.VarDef{Name: "b", Type: typed("B", "]"), Default: list(one, text("s"))}, api.VarDef{Name: "c", Type: typed("C", ""), Default: object("x", api.Value{Kind: api.Null})})},
		{"query($a:A=\"\" $b:B=[] $c:C={}){a}", vars(api.VarDef{Name: "a", Type: typed("A", ""), Default: text("")}, api.VarDef{Name: "b", Type: typed("B", ""), Default: list()}, api.VarDef{Name: "c", Type: typed("C", ""), Default: api.Value{Kind: api.Obj}})},

		{"query{a b c}", query(field("a"), field("b"), field("c"))},
		{"query{a:a a:b}", query(alias("a", field("a")), alias("a", field("b")))},
		{"query{a{b{c d} e} f}", query(field("a", field("b", field("c"), field("d")), field("e")), field("f"))},
		{"query{on null true query mutation fragment}", query(field("on"), field("null"), field("true"), field("query"), field("mutation"), field("fragment"))},
		{"query{x:a(y:1 z:2)@d(v:3)@e{b}}", query(alias("x", withArgs(withDirs(field("a", field("b")), dir("d", arg("v", api.Value{Kind: api.Int, S: "3"})), dir("e")), arg("y", one), arg("z", api.Value{Kind: api.Int, S: "2"}))))},
		{"query{a(x:-1.5e+3)}", query(withArgs(field("a"), arg("x", api.Value{Kind: api.Dec, S: "-1.5e+3"})))},
		{"query{a(x:true y:RED z:$v w:[[] {}] x:null)}", query(withArgs(field("a"), arg("x", api.Value{Kind: api.Bool, S: "true"}), arg("y", word("RED")), arg("z", variable("v")), arg("w", list(list(), api.Value{Kind: api.Obj})), arg("x", api.Value{Kind: api.Null})))},
		{"query{a(x:\"\\\"\\\\\\n\\u007f\u00e9\")}", query(withArgs(field("a"), arg("x", text("\"\\\n\x7f\u00e9"))))},
		{"query{a(x:{b:1 c:{} b:[2 2]})}", query(withArgs(field("a"), arg("x", api.Value{Kind: api.Obj, Names: []string{"b", "c", "b"}, List: []api.Value{one, {Kind: api.Obj}, list(api.Value{Kind: api.Int, S: "2"}, api.Value{Kind: api.Int, S: "2"})}})))},

		{"query{...F ...query@d@e(x:1) a}", query(spread("F"), withDirs(spread("query"), dir("d"), dir("e", arg("x", one))), field("a"))},
		{"query{...on T{a} ...on on@d{b} ...{c} ...@d(x:1){...{d}}}", query(inline("T", a...), withDirs(inline("on", field("b")), dir("d")), inline("", field("c")), withDirs(inline("", inline("", field("d"))), dir("d", arg("x", one))))},

		{"fragment F on T{a}", fragment("F", "T", a...)},
		{"fragment fragment on on{a ...F}", fragment("fragment", "on", field("a"), spread("F"))},
		{"fragment F on T@d@e(x:1){a}", api.Doc{Frags: []api.Frag{{Name: "F", On: "T", Dirs: []api.Dir{dir("d"), dir("e", arg("x", one))}, Sels: a}}}},
		{"query{a} query{a} mutation M{a} fragment F on T{a} fragment F on T{a}", api.Doc{Ops: []api.Op{{Sels: a}, {Sels: a}, {Mutation: true, Name: "M", Sels: a}}, Frags: []api.Frag{{Name: "F", On: "T", Sels: a}, {Name: "F", On: "T", Sels: a}}}},
	} {
		if got := print.Doc(c.d); got != c.want {
			t.Errorf("Doc(%+v) is %q, not %q", c.d, got, c.want)
		}
		if d, _, e := doc.Parse(c.want); e != api.OK || !reflect.DeepEqual(d, c.d) {
			t.Errorf("%q is parsed as %+v, %d", c.want, d, e)
		}
	}
}

// P7.1, P7.2: what was written in another way; fragments come behind operations.
func TestDocOfOtherTexts(t *testing.T) {
	for s, want := range map[string]string{
		"{ a }":                    "query{a}",
		"{,a,#no\n b,}":            "query{a b}",
		"query\n( $ a : [ A ! ] )": "",
		"query ( $ a : [ A ! ] , $b:B = \"\"\"\n  x\n   y\n\"\"\" ) { a }":                      `query($a:[A!] $b:B="x\n y"){a}`,
		"fragment F on T { a } { b } fragment G on T { c } mutation M { d }":                    "query{b} mutation M{d} fragment F on T{a} fragment G on T{c}",
		`{ a ( x : "\u0041\/" , y : { b : $ c } ) @ d { ... on T { e } ... F ... @ d { f } } }`: `query{a(x:"A/" y:{b:$c})@d{...on T{e} ...F ...@d{f}}}`,
	} {
		d, _, _ := doc.Parse(s)
		if got := print.Doc(d); got != want {
			t.Errorf("%q is printed as %q, not %q", s, got, want)
		}
	}
}

// P7.1: Sels by itself, and in a document.
func TestSels(t *testing.T) {
	for _, c := range []struct {
		want string
		l    []sel
	}{
		{"{}", nil},
		{"{}", []sel{}},
		{"{a}", []sel{field("a")}},
		{"{a b:c}", []sel{field("a"), alias("b", field("c"))}},
		{"{a{b} ...F ...on T{c} ...{d}}", []sel{field("a", field("b")), spread("F"), inline("T", field("c")), inline("", field("d"))}},
		{"{a(x:1)@d{b} ...F@d ...on T@d{c} ...@d{e}}", []sel{withDirs(withArgs(field("a", field("b")), arg("x", one)), dir("d")), withDirs(spread("F"), dir("d")), withDirs(inline("T", field("c")), dir("d")), withDirs(inline("", field("e")), dir("d"))}},
	} {
		if got := print.Sels(c.l); got != c.want {
			t.Errorf("Sels(%+v) is %q, not %q", c.l, got, c.want)
		}
		if len(c.l) > 0 && print.Doc(query(c.l...)) != "query"+c.want {
			t.Errorf("the query of %q is %q", c.want, print.Doc(query(c.l...)))
		}
	}
}

// P7.1: Sels asks for no bound: neither bytes nor depth, nor whether it may be parsed.
func TestSelsWithoutBounds(t *testing.T) {
	var many []sel
	for range 100000 {
		many = append(many, field("abc", field("d")))
	}
	if got := print.Sels(many); got != "{"+strings.Repeat("abc{d} ", 99999)+"abc{d}}" {
		t.Errorf("of many Sels is %d bytes", len(got))
	}
	deep := []sel{field("a")}
	for range 999 {
		deep = []sel{field("a", deep...)}
	}
	if got := print.Sels(deep); got != strings.Repeat("{a", 1000)+strings.Repeat("}", 1000) {
		t.Errorf("of deep ones Sels is %d bytes", len(got))
	}
	for want, l := range map[string][]sel{
		"{...{}}":       {inline("")},
		"{...on T@d{}}": {withDirs(inline("T"), dir("d"))},
		"{a b}":         {field("a b")},
	} {
		if got := print.Sels(l); got != want {
			t.Errorf("Sels(%+v) is %q, not %q", l, got, want)
		}
	}
}

// R3: an empty list is one like nil; what is handed in stays as it is.
func TestLists(t *testing.T) {
	bare := api.Doc{Ops: []api.Op{{Vars: []api.VarDef{}, Dirs: []api.Dir{}, Sels: []sel{{Kind: api.Field, Name: "a", Args: []api.Arg{}, Dirs: []api.Dir{}, Sels: []sel{}}, {Kind: api.Spread, Name: "F", Args: []api.Arg{}, Dirs: []api.Dir{{Name: "d", Args: []api.Arg{}}}, Sels: []sel{}}}}}, Frags: []api.Frag{}}
	bare.Ops[0].Vars = append(bare.Ops[0].Vars, api.VarDef{Name: "a", Type: api.Type{Name: "A"}, Default: api.Value{Names: []string{}, List: []api.Value{}}})
	if got := print.Doc(bare); got != "query($a:A){a ...F@d}" {
		t.Errorf("with empty lists it is %q", got)
	}
	const rich = `query Q($a:[A!]=[1] $b:B){a b:c(x:1 y:{z:$z})@d(x:"s")@e{f ...F@g(x:null) ...on T@h{i} ...{j}}} mutation{m} fragment F on T@k(x:true){l}`
	d, _, _ := doc.Parse(rich)
	was, _, _ := doc.Parse(rich)
	if print.Doc(d) != rich || print.Sels(d.Ops[1].Sels) != "{m}" {
		t.Errorf("the rich one is %q", print.Doc(d))
	}
	if !reflect.DeepEqual(d, was) {
		t.Error("a document was changed")
	}
}
