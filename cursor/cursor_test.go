package cursor_test

import (
	"slices"
	"strings"
	"testing"

	"refectory/api"
	"refectory/cursor"
)

func begin(t *testing.T, s string) *cursor.Cursor {
	t.Helper()
	c, at, e := cursor.New(s)
	if c == nil || at != 0 || e != api.OK {
		t.Fatalf("New(%q) is %v, %d, %d", s, c, at, e)
	}
	return c
}

func wantWrong(t *testing.T, c *cursor.Cursor, wantAt int, want api.Errno) {
	t.Helper()
	if at, e := c.Wrong(); at != wantAt || e != want {
		t.Errorf("wrong is %d, %d, not %d, %d", at, e, wantAt, want)
	}
	if want != api.OK && c.Left() != 0 {
		t.Errorf("%d tokens are left behind an error", c.Left())
	}
}

// Texts that have no tokens have no cursor.
func TestNew(t *testing.T) {
	for s, want := range map[string]api.Errno{"a ?": api.ErrText, strings.Repeat(" ", api.MaxSchema+1): api.ErrBig} {
		if c, at, e := cursor.New(s); c != nil || at != 2*int(api.ErrBig-want) || e != want {
			t.Errorf("New(%.9q) is %v, %d, %d", s, c, at, e)
		}
	}
	wantWrong(t, begin(t, ""), 0, api.OK)
}

// Each part is taken where it stands.
func TestParts(t *testing.T) {
	c := begin(t, `a : "s" [A!] = [1] [$v] 5 b`)
	if c.Left() != 17 || c.NextName() != "a" || c.TakeWord("b") || c.TakeSign(":") || c.TakeText() || !c.TakeWord("a") || c.NextName() != "" || c.NameOrNone() != "" || !c.TakeSign(":") || !c.TakeText() {
		t.Error("not the first three")
	}
	if y := c.Type(); y != (api.Type{Name: "A", Wraps: "!]"}) {
		t.Error(y)
	}
	if v := c.Default(); v.Kind != api.List || c.Default().Kind != 0 {
		t.Error(v)
	}
	if v := c.Value(); v.Kind != api.List || v.List[0].Kind != api.Var {
		t.Error(v)
	}
	if n := c.Int(); n != "5" || c.NameOrNone() != "b" || c.Left() != 0 {
		t.Error(n)
	}
	wantWrong(t, c, 0, api.OK)
}

// What must stand there and does not is wrong; the first error stays.
func TestWrong(t *testing.T) {
	for s, read := range map[string]func(*cursor.Cursor){
		"a ^b c":  func(c *cursor.Cursor) { c.Name(); c.Int(); c.Name() },
		"a ^:":    func(c *cursor.Cursor) { c.Name(); c.Name(); c.Sign(":") },
		"a ^b":    func(c *cursor.Cursor) { c.Name(); c.Sign(":"); c.Word("b") },
		" ^b":     func(c *cursor.Cursor) { c.Word("a"); c.Word("b") },
		"a ^":     func(c *cursor.Cursor) { c.Name(); c.Name(); c.Fail(api.ErrDeep) },
		"^[A":     func(c *cursor.Cursor) { c.Type(); c.Type() },
		"[1 ^)":   func(c *cursor.Cursor) { c.Value() },
		"=[1 ^$a": func(c *cursor.Cursor) { c.Default() },
		"= ^$a":   func(c *cursor.Cursor) { c.Default() },
	} {
		front, rest, _ := strings.Cut(s, "^")
		c := begin(t, front+rest)
		read(c)
		wantWrong(t, c, len(front), api.ErrText)
	}
	c := begin(t, strings.Repeat("[", 13))
	c.Value()
	wantWrong(t, c, 12, api.ErrDeep)
}

// Several parts are one at least.
func TestSeveral(t *testing.T) {
	c := begin(t, "{a b}c(d)(")
	if l := cursor.Several(c, "{", c.Name, "}"); !slices.Equal(l, []string{"a", "b"}) {
		t.Error(l)
	}
	if l := cursor.SeveralOrNone(c, "(", c.Name, ")"); l != nil || c.Name() != "c" {
		t.Error(l)
	}
	if l := cursor.SeveralOrNone(c, "(", c.Name, ")"); !slices.Equal(l, []string{"d"}) {
		t.Error(l)
	}
	cursor.SeveralOrNone(c, "(", c.Name, ")")
	wantWrong(t, c, 10, api.ErrText)
	for s, at := range map[string]int{"": 0, "a": 0, "{}": 1, "{a": 2, "{a)": 2} {
		c := begin(t, s)
		cursor.Several(c, "{", c.Name, "}")
		wantWrong(t, c, at, api.ErrText)
	}
}
