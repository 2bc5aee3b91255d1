package print_test

import (
	"strings"
	"testing"

	"refectory/api"
	"refectory/doc"
	"refectory/print"
)

// P7.1: documents that no text is parsed as, most of them with a text that is parsed as another one.
func TestDocOfNone(t *testing.T) {
	a := []sel{field("a")}
	typed := api.Type{Name: "A"}
	for i, d := range []api.Doc{
		{}, {Ops: []api.Op{{}}}, {Frags: []api.Frag{{}}}, {Ops: []api.Op{{Sels: a}, {}}}, {Ops: []api.Op{{Sels: a}}, Frags: []api.Frag{{Name: "F", On: "T"}}},
		{Ops: []api.Op{{Name: "Q M", Sels: a}}}, {Ops: []api.Op{{Name: "Q@d", Sels: a}}}, {Ops: []api.Op{{Name: "Q{a} query", Sels: a}}}, {Ops: []api.Op{{Name: "9", Sels: a}}}, {Ops: []api.Op{{Name: " Q", Sels: a}}}, {Ops: []api.Op{{Name: " ", Sels: a}}},

		query(), query(sel{Name: "a"}), query(sel{Kind: 4, Name: "a"}), query(sel{Kind: -1, Name: "a"}), query(field("a"), sel{}), query(field("a"), sel{Kind: 9}, field("b")),
		query(field("")), query(field("a b")), query(field("a,")), query(field("a#\n")), query(field("a:b")), query(field("a@d")), query(field("a{b}")), query(field("a(x:1)")), query(field("...F")), query(field("\u00e9")), query(alias("a:b", field("c"))), query(alias("a b", field("c"))), query(alias(" a", field("c"))),
		query(sel{Kind: api.Field, Name: "a", On: "T"}),
		query(field(strings.Repeat("a", api.MaxName+1))), query(field("a", field("b", field("")))),

		query(spread("on")), query(spread("")), query(spread("F G")), query(spread("on T{a}")), query(spread("F@d")),
		query(alias("a", spread("F"))), query(sel{Kind: api.Spread, Name: "F", On: "T"}), query(withArgs(spread("F"), arg("x", one))), query(sel{Kind: api.Spread, Name: "F", Sels: a}),

		query(inline("T")), query(inline("")), query(inline("T U", a...)), query(inline("T@d", a...)), query(inline("9", a...)),
		query(alias("a", inline("T", a...))), query(sel{Kind: api.Inline, Name: "a", Sels: a}), query(withArgs(inline("T", a...), arg("x", one))),

		query(withArgs(field("a"), arg("x", none))), query(withArgs(field("a"), arg("x", none), arg("y b", one))), query(withArgs(field("a"), arg("", one))), query(withArgs(field("a"), arg("x:1 y", one))),
		query(withArgs(field("a"), arg("x", word("true")))), query(withArgs(field("a"), arg("x", word("y z:1")))), query(withArgs(field("a"), arg("x", api.Value{Kind: api.Dec, S: "1"}))), query(withArgs(field("a"), arg("x", api.Value{Kind: api.Int, S: "01"}))), query(withArgs(field("a"), arg("x", text("\xff")))),
		query(withArgs(field("a"), arg("x", api.Value{Kind: api.List, Names: []string{"b"}, List: []api.Value{one}}))), query(withArgs(field("a"), arg("x", api.Value{Kind: api.Obj, Names: []string{"b"}}))), query(withArgs(field("a"), arg("x", api.Value{Kind: api.Null, S: "null"}))), query(withArgs(field("a"), arg("x", api.Value{Kind: api.Int, S: "1", List: []api.Value{one}}))),
		// The name behind a value that has no text gives one in its place, but for what is unlike in it.
		query(withArgs(field("a"), arg("x", api.Value{Kind: api.Enum, S: "y", List: []api.Value{one}}), arg("y b", one))), query(withArgs(field("a"), arg("x", list(one, none)), arg("[1 1] b", one))), query(withArgs(field("a"), arg("x", api.Value{Kind: api.Obj, Names: []string{"b", "c"}, List: []api.Value{one, none}}), arg("{c:1 b:1} b", one))),
		query(withDirs(field("a"), dir(""))), query(withDirs(field("a"), dir("d@e"))), query(withDirs(field("a"), dir("d(x:1)"))), query(withDirs(field("a"), dir("d", arg("x", none)))), query(withDirs(spread("F"), dir("d e"))), query(withDirs(inline("", a...), dir("d "))),

		vars(api.VarDef{Name: "", Type: typed}), vars(api.VarDef{Name: "a"}), vars(api.VarDef{Name: "a:A $b", Type: typed}), vars(api.VarDef{Name: "a", Type: api.Type{Name: "A!"}}), vars(api.VarDef{Name: "a", Type: api.Type{Name: "[A]"}}), vars(api.VarDef{Name: "a", Type: api.Type{Name: "A", Wraps: "!!"}}),
		vars(api.VarDef{Name: "a", Type: typed, Default: variable("b")}), vars(api.VarDef{Name: "a", Type: typed, Default: list(variable("b"))}), vars(api.VarDef{Name: "a", Type: typed, Default: api.Value{Kind: 10}}),
		vars(api.VarDef{Name: "a", Type: typed, Default: api.Value{S: "1"}}), vars(api.VarDef{Name: "a", Type: typed, Default: api.Value{Names: []string{"b"}}}), vars(api.VarDef{Name: "a", Type: typed, Default: list(one, none)}), vars(api.VarDef{Name: "a", Type: typed, Default: api.Value{List: []api.Value{one}}}),

		fragment("", "T", a...), fragment("on", "T", a...), fragment("F", "", a...), fragment("F", "T"), fragment("F on U{a} fragment G", "T", a...), fragment("F", "T@d", a...), fragment("F G", "T", a...), {Frags: []api.Frag{{Name: "F", On: "T", Sels: a, Dirs: []api.Dir{dir("d", arg("x y", one))}}}},
	} {
		if got := print.Doc(d); got != "" {
			t.Errorf("%d: Doc(%+v) is %q", i, d, got)
		}
		if doc.Check(d) {
			t.Errorf("%d: %+v may be", i, d)
		}
	}
}

// P7.1: the most bytes and tokens.
func TestDocBounds(t *testing.T) {
	for n := api.MaxText - 2; n <= api.MaxText+2; n++ {
		want := n <= api.MaxText
		x := strings.Repeat("x", n-len(`query{a(b:"")}`))
		if got := print.Doc(query(withArgs(field("a"), arg("b", text(x))))); (got != "") != want || want && got != `query{a(b:"`+x+`")}` {
			t.Errorf("of %d bytes it is %d bytes", n, len(got))
		}
	}
	// The text is longer than what is said: only as it is written does it count.
	for n, want := range map[int]bool{664: true, 665: false} {
		if got := print.Doc(query(withArgs(field("a"), arg("b", text(strings.Repeat("\x7f", n)))))); (got != "") != want {
			t.Errorf("of %d bytes 127 it is %d bytes", n, len(got))
		}
	}
	for n := api.MaxNodes - 2; n <= api.MaxNodes+2; n++ {
		var l []sel
		for range n - 3 {
			l = append(l, field("a"))
		}
		want := "query{" + strings.TrimSuffix(strings.Repeat("a ", n-3), " ") + "}"
		if n > api.MaxNodes {
			want = ""
		}
		if got := print.Doc(query(l...)); got != want {
			t.Errorf("of %d tokens it is %q", n, got)
		}
	}
	// Each of two definitions is short enough, not both together, nor the blank between.
	half := func(n int) api.Value { return text(strings.Repeat("x", n)) }
	for size, want := range map[int]bool{1976: true, 1977: false} {
		d := query(withArgs(field("a"), arg("b", half(size))))
		d.Frags = fragment("F", "T", withArgs(field("a"), arg("b", half(1976)))).Frags
		d.Frags[0].Name = strings.Repeat("F", 10)
		full := len(`query{a(b:"")} fragment FFFFFFFFFF on T{a(b:"")}`) + size + 1976
		if got := print.Doc(d); (got != "") != (full <= api.MaxText) || (got != "") != want {
			t.Errorf("of %d bytes it is %d bytes", full, len(got))
		}
	}
}

// P7.1: how deep sets, values and types may be.
func TestDocDeep(t *testing.T) {
	for n := range 16 {
		want := n+1 <= api.MaxDeep
		for _, around := range []func(sel) sel{
			func(s sel) sel { return field("a", s) },
			func(s sel) sel { return inline("", s) },
			func(s sel) sel { return inline("T", field("b"), s) },
		} {
			s := field("a")
			for range n {
				s = around(s)
			}
			if (print.Doc(query(s)) != "") != want || (print.Doc(fragment("F", "T", s)) != "") != want {
				t.Errorf("%d sets in one another: not %v", n+1, want)
			}
		}
		want = n <= api.MaxDeep
		v, o := one, one
		for range n {
			v, o = list(v), object("b", o)
		}
		typed := api.Type{Name: "A", Wraps: strings.Repeat("]", n)}
		for _, d := range []api.Doc{query(withArgs(field("a"), arg("x", v))), query(withDirs(spread("F"), dir("d", arg("x", o)))), vars(api.VarDef{Name: "a", Type: api.Type{Name: "A"}, Default: v}), vars(api.VarDef{Name: "a", Type: typed})} {
			if (print.Doc(d) != "") != want {
				t.Errorf("%d lists in one another: not %v", n, want)
			}
		}
		if got := print.Sels([]sel{withArgs(field("a"), arg("x", v))}); want && got != "{a(x:"+strings.Repeat("[", n)+"1"+strings.Repeat("]", n)+")}" {
			t.Errorf("%d lists in one another: Sels is %q", n, got)
		}
	}
}

// R1: lists that hold themselves have an end.
func TestCircles(t *testing.T) {
	sels := []sel{field("a"), field("b"), inline("T"), field("c")}
	sels[1].Sels = sels
	sels[2].Sels = sels[1:]
	sels[3].Sels = sels
	values := []api.Value{one, list(), {Kind: api.Obj, Names: []string{"a", "b", "c", "d"}}, {Kind: api.Enum, S: "y"}}
	for i := range values[1:] {
		values[i+1].List = values
	}
	typed := api.Type{Name: "A"}
	docs := []api.Doc{query(sels...), fragment("F", "T", sels...), query(sel{Kind: api.Spread, Name: "F", Sels: sels}), query(sel{Kind: 9, Sels: sels}), vars(api.VarDef{Name: "a", Type: typed, Default: api.Value{List: values}})}
	for _, v := range values[1:] {
		docs = append(docs, query(withArgs(field("a"), arg("x", v))), query(withArgs(spread("F"), arg("x", v))), query(withArgs(field("a"), arg("x", v), arg("y b", one))), vars(api.VarDef{Name: "a", Type: typed, Default: v}))
	}
	for i, d := range docs {
		if got := print.Doc(d); got != "" {
			t.Errorf("%d: a document of what holds itself is %q", i, got)
		}
		for _, o := range d.Ops {
			print.Sels(o.Sels)
		}
	}
	if got := print.Sels(sels); got != "" {
		t.Errorf("of selections that hold themselves Sels is %d bytes", len(got))
	}
}

// R1: few lists, each in the next one many times, stand for more than could be written.
func TestSharedLists(t *testing.T) {
	l := []sel{field("a")}
	v := one
	for range api.MaxDeep {
		l = []sel{field("a", l...), field("a", l...), field("a", l...), inline("", l...), field("a", l...), field("a", l...), field("a", l...), field("a", l...), field("a", l...)}
		v = list(v, v, v, v, v, v, v, v, v, v, v, v, v, v, v, v, v, v, v, v)
	}
	for i, d := range []api.Doc{
		query(l...), query(l[0].Sels...), fragment("F", "T", l...), query(sel{Kind: api.Spread, Name: "F", Sels: l}),
		query(withArgs(field("a"), arg("x", v))), query(withArgs(spread("F"), arg("x", v))), vars(api.VarDef{Name: "a", Type: api.Type{Name: "A"}, Default: v}),
	} {
		if got := print.Doc(d); got != "" {
			t.Errorf("%d: a document of too much is %q", i, got)
		}
	}
}
