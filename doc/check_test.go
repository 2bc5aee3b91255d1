package doc_test

import (
	"reflect"
	"strings"
	"testing"

	"refectory/api"
	"refectory/doc"
	"refectory/value"
)

// rich has each part that a document may have.
const rich = `query Q($a:[A!]=[1] $b:B){a b:c(x:1 y:{z:$z})@d(x:"s")@e{f ...F@g(x:null) ...on T@h{i} ...{j}}} mutation{m} fragment F on T@k(x:true){l}`

// wantSameCheck holds Check against Parse: of a document that may be the text that text makes is parsed as it, of another one none is.
func wantSameCheck(t *testing.T, d api.Doc) bool {
	t.Helper()
	again, _, errno := doc.Parse(text(d))
	want := errno == api.OK && exact(again, d)
	if got := doc.Check(d); got != want {
		t.Errorf("Check(%+v) is %v; its text is %q", d, got, text(d))
	}
	return want
}

// text is a document's text, by and large; of one that may not be, any text.
func text(d api.Doc) string {
	all := ""
	for _, o := range d.Ops {
		all += map[bool]string{false: "query ", true: "mutation "}[o.Mutation] + o.Name
		for i, v := range o.Vars {
			all += map[bool]string{true: "(", false: " "}[i == 0] + "$" + v.Name + ":" + value.TypeText(v.Type)
			if v.Default.Kind != 0 {
				all += "=" + value.Text(v.Default)
			}
		}
		if len(o.Vars) > 0 {
			all += ")"
		}
		all += dirsText(o.Dirs) + "{" + selsText(o.Sels) + "}"
	}
	for _, f := range d.Frags {
		all += "fragment " + f.Name + " on " + f.On + dirsText(f.Dirs) + "{" + selsText(f.Sels) + "}"
	}
	return all
}

func dirsText(dirs []api.Dir) string {
	all := ""
	for _, d := range dirs {
		all += "@" + d.Name + argsText(d.Args)
	}
	return all
}

func argsText(args []api.Arg) string {
	var all []string
	for _, a := range args {
		all = append(all, a.Name+":"+value.Text(a.Value))
	}
	if len(all) == 0 {
		return ""
	}
	return "(" + strings.Join(all, " ") + ")"
}

func selsText(sels []api.Sel) string {
	var all []string
	for _, s := range sels {
		one := s.Name
		switch {
		case s.Kind == api.Spread:
			one = "..." + s.Name
		case s.Kind == api.Inline && s.On != "":
			one = "...on " + s.On
		case s.Kind == api.Inline:
			one = "..."
		case s.Alias != "":
			one = s.Alias + ":" + s.Name
		}
		one += argsText(s.Args) + dirsText(s.Dirs)
		if len(s.Sels) > 0 || s.Kind == api.Inline {
			one += "{" + selsText(s.Sels) + "}"
		}
		all = append(all, one)
	}
	return strings.Join(all, " ")
}

// eachTurn turns one thing of v after the other, visits, and turns it back.
func eachTurn(v reflect.Value, visit func()) {
	turn := func(others ...any) {
		old := reflect.New(v.Type()).Elem()
		old.Set(v)
		for _, other := range others {
			v.Set(reflect.ValueOf(other).Convert(v.Type()))
			visit()
		}
		v.Set(old)
	}
	switch v.Kind() {
	case reflect.Struct:
		for i := range v.NumField() {
			eachTurn(v.Field(i), visit)
		}
	case reflect.Bool:
		turn(!v.Bool())
	case reflect.Int:
		turn(-1, 0, 1, 2, 3, 4, 5, 6, 7, 8, 9, 10, 1<<62)
	case reflect.String:
		turn("", "a", "on", "query", "true", "null", "9", "-1", "1.5", "a b", "a:b", "$a", "\u00e9", "\xff", "!", "]", "!]!", "!!", "]]!]", strings.Repeat("]", 12), strings.Repeat("]", 13), strings.Repeat("a", 40), strings.Repeat("a", 41), strings.Repeat("1", 41))
	case reflect.Slice:
		for i := range v.Len() {
			eachTurn(v.Index(i), visit)
		}
		none := reflect.MakeSlice(v.Type(), 0, 4)
		more := reflect.AppendSlice(none, v)
		more = reflect.Append(more, reflect.New(v.Type().Elem()).Elem())
		turn(none.Interface(), more.Interface())
		if v.Len() > 0 {
			twice := reflect.Append(reflect.AppendSlice(reflect.MakeSlice(v.Type(), 0, 4), v), v.Index(0))
			turn(twice.Interface(), v.Slice(1, v.Len()).Interface())
		}
	}
}

// P6.3: a document that may be, with one thing turned.
func TestCheckOfOneTurn(t *testing.T) {
	for _, s := range []string{rich, "{a}", "fragment F on T{a}"} {
		d, _, errno := doc.Parse(s)
		if errno != api.OK || !wantSameCheck(t, d) {
			t.Fatal(s, errno)
		}
		may, mayNot := 0, 0
		eachTurn(reflect.ValueOf(&d).Elem(), func() {
			if wantSameCheck(t, d) {
				may++
			} else {
				mayNot++
			}
		})
		if may < 4 || mayNot < 20 {
			t.Errorf("turned, %q may be %d times, not %d times", s, may, mayNot)
		}
	}
}

// P6.3: two things turned, such as a kind and what it must not have.
func TestCheckOfTwoTurns(t *testing.T) {
	for _, s := range []string{"{a:b}", "{...F}", "{...on T{a}}", "{a(x:1)}", "{...@d{a}}", "fragment F on T{a}", "query Q($a:A=1){a}", "query($a:A=[1]){a}"} {
		d, _, errno := doc.Parse(s)
		if errno != api.OK {
			t.Fatal(s, errno)
		}
		v := reflect.ValueOf(&d).Elem()
		eachTurn(v, func() {
			eachTurn(v, func() { wantSameCheck(t, d) })
		})
	}
}

// P6.3, each part by itself: what may be.
func TestCheck(t *testing.T) {
	null := api.Value{Kind: api.Null}
	long := strings.Repeat("a", api.MaxName)
	for i, d := range []api.Doc{
		query(field("a")), query(field("on")), query(field(long)), query(alias(long, field("a"))), query(spread("F")), query(spread("query")), query(inline("", field("a"))), query(inline("on", field("a"))),
		query(with(field("a"), []api.Arg{arg("x", dol), arg("x", null)}, dir("d", arg("x", dol)), dir("d"))), query(with(spread("F"), nil, dir("on"))), query(with(inline("", spread("F")), nil, dir("d"))),
		fragment("F", "on", field("a")), fragment(long, long, field("a")), {Ops: []api.Op{{Name: "on", Mutation: true, Sels: []sel{field("a")}, Dirs: []api.Dir{dir("d", arg("x", dol))}}}},
		vars(api.VarDef{Name: "a", Type: api.Type{Name: "A"}}), vars(api.VarDef{Name: "on", Type: api.Type{Name: "on", Wraps: strings.Repeat("]!", 12)}, Default: null}),
		vars(api.VarDef{Name: "a", Type: api.Type{Name: "A"}, Default: api.Value{Names: []string{}, List: []api.Value{}}}),
	} {
		if !doc.Check(d) {
			t.Errorf("%d: %+v may be", i, d)
		}
	}
	longer := long + "a"
	for i, d := range []api.Doc{
		{}, {Ops: []api.Op{{}}}, {Frags: []api.Frag{{}}}, query(), query(field("")), query(field(longer)), query(field("a"), field("a b")), query(alias(longer, field("a"))), query(spread("")), query(spread("on")), query(inline("T")), query(inline("")), query(inline(longer, field("a"))), query(sel{Name: "a"}), query(sel{Kind: 4, Name: "a"}), query(sel{Kind: -1, Name: "a"}),
		query(with(spread("F"), []api.Arg{arg("x", one)})), query(with(inline("", field("a")), []api.Arg{arg("x", one)})), query(alias("a", spread("F"))), query(alias("a", inline("", field("a")))), query(field("a", field("b", field("9")))), query(field("a", inline("", spread("on")))),
		query(with(field("a"), []api.Arg{arg("x", api.Value{})})), query(with(field("a"), []api.Arg{arg("", one)})), query(with(field("a"), nil, dir(""))), query(with(field("a"), nil, dir("d", arg("x", api.Value{Kind: api.Int, S: "1.5"})))),
		fragment("on", "T", field("a")), fragment("", "T", field("a")), fragment("F", "", field("a")), fragment("F", "T"), fragment(longer, "T", field("a")), fragment("F", longer, field("a")),
		vars(api.VarDef{Name: "", Type: api.Type{Name: "A"}}), vars(api.VarDef{Name: "a"}), vars(api.VarDef{Name: "a", Type: api.Type{Name: "A", Wraps: "]!!"}}), vars(api.VarDef{Name: "a", Type: api.Type{Name: "A"}, Default: dol}),
		vars(api.VarDef{Name: "a", Type: api.Type{Name: "A"}, Default: api.Value{Kind: api.List, List: []api.Value{one, {Kind: api.List, List: []api.Value{dol}}}}}),
		vars(api.VarDef{Name: "a", Type: api.Type{Name: "A"}, Default: api.Value{S: "1"}}), vars(api.VarDef{Name: "a", Type: api.Type{Name: "A"}, Default: api.Value{List: []api.Value{one}}}), vars(api.VarDef{Name: "a", Type: api.Type{Name: "A"}, Default: api.Value{Names: []string{"b"}}}),
		{Ops: []api.Op{{Name: "Q", Sels: []sel{field("a")}}, {Name: "9", Sels: []sel{field("a")}}}}, {Ops: []api.Op{{Sels: []sel{field("a")}}}, Frags: []api.Frag{{Name: "F", On: "T", Sels: []sel{field("a")}}, {Name: "F", On: "T"}}},
	} {
		if doc.Check(d) {
			t.Errorf("%d: %+v may not be", i, d)
		}
	}
}

// P6.3: how deep sets and values may be.
func TestCheckDeep(t *testing.T) {
	nested := func(n int, around func(sel) sel) sel {
		s := field("a")
		for range n {
			s = around(s)
		}
		return s
	}
	for _, around := range []func(sel) sel{
		func(s sel) sel { return field("a", s) },
		func(s sel) sel { return field("a", field("b"), s) },
		func(s sel) sel { return inline("", s) },
		func(s sel) sel { return inline("T", s, spread("F")) },
	} {
		for n := range 14 {
			s := nested(n, around)
			// The set around is 1 deep.
			want := n+1 <= api.MaxDeep
			if doc.Check(query(s)) != want || doc.Check(fragment("F", "T", s)) != want {
				t.Errorf("%d sets in one another: not %v", n+1, want)
			}
		}
	}
	list := func(n int) api.Value {
		v := one
		for range n {
			v = api.Value{Kind: api.List, List: []api.Value{v}}
		}
		return v
	}
	for n := range 14 {
		want := n <= api.MaxDeep
		args := []api.Arg{arg("x", list(n))}
		for _, d := range []api.Doc{query(with(field("a"), args)), query(with(spread("F"), nil, dir("d", args...))), vars(api.VarDef{Name: "a", Type: api.Type{Name: "A"}, Default: list(n)}), query(nested(11, func(s sel) sel { return with(field("a", s), args) }))} {
			if doc.Check(d) != want {
				t.Errorf("%d lists in one another: not %v", n, want)
			}
		}
	}
}

// P6.3: bytes and tokens have no bounds there.
func TestCheckOfMany(t *testing.T) {
	var many []sel
	for range 10000 {
		many = append(many, field("a", field("b")))
	}
	d := query(with(field("a", many...), []api.Arg{arg("x", api.Value{Kind: api.Str, S: strings.Repeat("x", 100000)})}))
	if _, at, errno := doc.Parse(text(d)); !doc.Check(d) || at != 0 || errno != api.ErrBig {
		t.Errorf("a document of many: %v, %d, %d", doc.Check(d), at, errno)
	}
	many[9999].Sels = []sel{spread("on")}
	if doc.Check(d) {
		t.Error("a document of many, and a wrong one at its end, may not be")
	}
}

// R1: lists that hold themselves are too deep.
func TestCheckOfCircles(t *testing.T) {
	sels := []sel{field("a"), field("b")}
	sels[1].Sels = sels
	values := []api.Value{one, {Kind: api.List}}
	values[1].List = values
	for _, d := range []api.Doc{query(sels...), query(inline("", sels...)), query(with(field("a"), []api.Arg{arg("x", values[1])})), vars(api.VarDef{Name: "a", Type: api.Type{Name: "A"}, Default: values[1]})} {
		if doc.Check(d) {
			t.Error("a list that holds itself may not be")
		}
	}
}

// R3: what is asked about stays as it is.
func TestCheckTurnsNothing(t *testing.T) {
	d, _, _ := doc.Parse(rich)
	was, _, _ := doc.Parse(rich)
	doc.Check(d)
	if !exact(d, was) {
		t.Error("Check turned a document")
	}
}
