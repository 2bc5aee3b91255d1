package pen_test

import (
	"strings"
	"testing"

	"refectory/api"
	"refectory/pen"
)

var one = api.Value{Kind: api.Int, S: "1"}

func list(l ...api.Value) api.Value { return api.Value{Kind: api.List, List: l} }

// wantText asks for what is written with just so much room, and for nothing with less.
func wantText(t *testing.T, want string, write func(p *pen.Pen)) {
	t.Helper()
	for room := range len(want) + 2 {
		p := pen.New(room)
		write(p)
		if got := p.Text(); got != want && room >= len(want) || got != "" && room < len(want) {
			t.Errorf("with room for %d bytes it is %q, not %q", room, got, want)
		}
	}
}

func TestText(t *testing.T) {
	wantText(t, "", func(p *pen.Pen) { p.Write() })
	wantText(t, "abc", func(p *pen.Pen) { p.Write("a", "", "bc") })
	wantText(t, "a;b", func(p *pen.Pen) { pen.Several(p, func(s string) { p.Write(s) }, ";", "a", "b") })
	wantText(t, "[1 [] 1]", func(p *pen.Pen) { p.Value(list(one, list(), one)) })
	wantText(t, "=1", func(p *pen.Pen) { p.Default(one); p.Default(api.Value{}) })
	wantText(t, "(1 1)", func(p *pen.Pen) { pen.InBrackets(p, p.Value); pen.InBrackets(p, p.Value, one, one) })
	wantText(t, "{1 1}{}", func(p *pen.Pen) { pen.InBraces(p, p.Value, one, one); pen.InBraces(p, p.Value) })
	wantText(t, "", func(p *pen.Pen) { p.Write("a"); p.Fill(); p.Write("b") })
}

// A value without a text is left out.
func TestLeftOut(t *testing.T) {
	round := list(one, list())
	round.List[1].List = round.List
	deep := one
	for range api.MaxDeep + 1 {
		deep = list(deep)
	}
	for _, v := range []api.Value{{}, {Kind: api.Int, S: "01"}, list(one, api.Value{}), round, deep} {
		p := pen.New(api.MaxSchema)
		p.Write("a")
		p.Value(v)
		p.Write("b")
		if p.Text() != "ab" {
			t.Errorf("it is %q", p.Text())
		}
	}
}

// Parts are written no longer when there is no room, nor is a value of more parts than that.
func TestFull(t *testing.T) {
	shared := one
	for range api.MaxDeep {
		shared = list(shared, shared, shared, shared, shared, shared, shared, shared, shared, shared)
	}
	for _, v := range []api.Value{shared, list(append(shared.List, one)...)} {
		p := pen.New(api.MaxSchema)
		p.Value(v)
		p.Write("b")
		if p.Text() != "" {
			t.Errorf("of too many parts it is %q", p.Text())
		}
	}
	p := pen.New(9)
	written := 0
	pen.Several(p, func(s string) { written++; p.Write(s) }, "", strings.Split(strings.Repeat("a", 100), "")...)
	if written != 10 || p.Text() != "" {
		t.Errorf("%d parts were written: %q", written, p.Text())
	}
}

func TestSame(t *testing.T) {
	object := func(names ...string) api.Value {
		return api.Value{Kind: api.Obj, Names: names, List: []api.Value{one, one}}
	}
	all := []api.Value{{}, one, {Kind: api.Int, S: "2"}, {Kind: api.Enum, S: "1"}, list(), list(one), list(one, one), list(list(one)), object("a", "b"), object("b", "a"), object("a"), {S: "1"}}
	for i, a := range all {
		for j, b := range all {
			if pen.Same(a, b) != (i == j) {
				t.Errorf("%+v and %+v: not %v", a, b, i == j)
			}
		}
	}
	if !pen.Same(list(), api.Value{Kind: api.List, List: []api.Value{}, Names: []string{}}) {
		t.Error("nil and an empty list are two")
	}
}
