package print_test

import (
	"math/rand"
	"reflect"
	"strings"
	"testing"

	"refectory/api"
	"refectory/doc"
	"refectory/lex"
	"refectory/print"
	"refectory/runes"
)

// maker makes documents by chance; one thing of so many is wrong (0: none).
type maker struct {
	*rand.Rand
	wrong int
}

func (m maker) isWrong() bool { return m.wrong > 0 && m.Intn(m.wrong) == 0 }

// of is one of these words; a wrong one is not.
func (m maker) of(words string) string {
	l := strings.Fields(words)
	if m.isWrong() {
		l = []string{"", "a b", "a:b", "9", "on", "a@b", "\u00e9", "$a", "a\n", strings.Repeat("a", 41)}
	}
	return l[m.Intn(len(l))]
}

func (m maker) name() string {
	return m.of("a b cc _1 query mutation fragment true null " + strings.Repeat("n", 40))
}

// several is up to three of what one makes; none is nil.
func several[T any](m maker, least int, one func() T) []T {
	var l []T
	for range least + m.Intn(3-least) {
		l = append(l, one())
	}
	return l
}

func (m maker) document() api.Doc {
	d := api.Doc{Ops: several(m, 0, m.operation)}
	least := 0
	if len(d.Ops) == 0 && !m.isWrong() {
		least = 1
	}
	d.Frags = several(m, least, func() api.Frag {
		return api.Frag{Name: m.name(), On: m.of("T on"), Dirs: m.dirs(), Sels: m.set(1)}
	})
	return d
}

func (m maker) operation() api.Op {
	o := api.Op{Mutation: m.Intn(2) == 0, Vars: several(m, 0, m.variable), Dirs: m.dirs(), Sels: m.set(1)}
	if m.Intn(2) == 0 {
		o.Name = m.name()
	}
	return o
}

func (m maker) variable() api.VarDef {
	v := api.VarDef{Name: m.name(), Type: api.Type{Name: m.of("A on"), Wraps: m.of("! ] !] ]! !]! ]]!")}}
	if m.Intn(2) == 0 {
		v.Default = m.value(1, false)
	}
	return v
}

func (m maker) dirs() []api.Dir {
	return several(m, 0, func() api.Dir { return api.Dir{Name: m.name(), Args: m.args()} })
}

func (m maker) args() []api.Arg {
	return several(m, 0, func() api.Arg { return api.Arg{Name: m.name(), Value: m.value(1, true)} })
}

func (m maker) value(deep int, mayVary bool) api.Value {
	v := api.Value{Kind: 1 + m.Intn(8)}
	if mayVary && m.Intn(4) == 0 || m.isWrong() {
		v.Kind = api.Var
	}
	if m.isWrong() {
		v.S = "1"
	}
	part := func() api.Value { return m.value(deep+1, mayVary) }
	switch v.Kind {
	case api.Bool:
		v.S = m.of("true false")
	case api.Int:
		v.S = m.of("0 -1 12")
	case api.Dec:
		v.S = m.of("1.5 -0e1 1E+2")
	case api.Str:
		v.S = []string{"", "s", "{", "a b", "\"\\\n\x7f", "\u00e9\u20ac"}[m.Intn(6)]
	case api.Enum:
		v.S = m.of("RED on query")
	case api.Var:
		v.S = m.name()
	case api.Obj, api.List:
		if deep < 3 {
			v.List = several(m, 0, part)
		}
		if v.Kind == api.Obj {
			for range v.List {
				v.Names = append(v.Names, m.name())
			}
		}
	}
	return v
}

func (m maker) set(deep int) []sel {
	return several(m, 1, func() sel { return m.selection(deep) })
}

func (m maker) selection(deep int) sel {
	s := sel{Kind: api.Field, Dirs: m.dirs()}
	if deep < 3 {
		s.Kind = 1 + m.Intn(3)
	}
	has := [...]bool{s.Kind == api.Field, s.Kind != api.Inline, s.Kind == api.Inline, s.Kind == api.Field, s.Kind == api.Inline || s.Kind == api.Field && deep < 3 && m.Intn(2) == 0}
	if m.isWrong() {
		at := m.Intn(len(has))
		has[at] = !has[at]
	}
	if m.isWrong() {
		s.Kind = m.Intn(5)
	}
	if has[0] && m.Intn(2) == 0 {
		s.Alias = m.name()
	}
	if has[1] {
		s.Name = m.name()
	}
	if has[2] && m.Intn(2) == 0 {
		s.On = m.of("T on")
	}
	if has[3] {
		s.Args = m.args()
	}
	if has[4] && deep < 4 {
		s.Sels = m.set(deep + 1)
	}
	return s
}

// spaced is the one way to write these tokens: a blank only where one part of a row ends and the next one begins.
func spaced(s string) string {
	tokens, _, _ := lex.All(s)
	all, rounds := "", 0
	for i, token := range tokens {
		sign := token.Kind == lex.Sign
		opens := i == 0 || tokens[i-1].Kind == lex.Sign && strings.Contains(" { ( [ : = $ @ ... ", " "+tokens[i-1].S+" ")
		joins := sign && strings.Contains(" ) ] } : = ! ( @ ", " "+token.S+" ")
		set := sign && token.S == "{" && rounds == 0
		if !opens && !joins && !set {
			all += " "
		}
		switch {
		case token.Kind == lex.Str:
			all += runes.Quote(token.S)
		case sign && token.S == "(":
			rounds++
		case sign && token.S == ")":
			rounds--
		}
		if token.Kind != lex.Str {
			all += token.S
		}
	}
	return all
}

// hold tells whether the document has a text.
func hold(t *testing.T, d api.Doc) bool {
	t.Helper()
	got := print.Doc(d)
	if got == "" {
		return false
	}
	again, _, e := doc.Parse(got)
	if e != api.OK || !reflect.DeepEqual(again, d) {
		t.Errorf("Doc(%+v) is %q, parsed %+v, %d", d, got, again, e)
	}
	if got != spaced(got) || strings.HasPrefix(got, "{") || len(got) > api.MaxText {
		t.Errorf("%q is not written as %q", got, spaced(got))
	}
	for _, o := range d.Ops {
		if s := print.Sels(o.Sels); !strings.Contains(got, s) || s != spaced(s) {
			t.Errorf("%q is not in %q", s, got)
		}
	}
	return true
}

// size is how many parts there are in a document, and how many bytes they hold.
func size(v reflect.Value) (parts, bytes int) {
	add := func(part reflect.Value) {
		more, held := size(part)
		parts += more
		bytes += held
	}
	switch v.Kind() {
	case reflect.Struct:
		parts++
		for i := range v.NumField() {
			add(v.Field(i))
		}
	case reflect.Slice:
		for i := range v.Len() {
			add(v.Index(i))
		}
	case reflect.String:
		bytes = v.Len()
	}
	return parts, bytes
}

// isShort tells whether there is room in any case: a part has at most 8 tokens and 16 bytes of its own, a byte is written as at most 6.
func isShort(d api.Doc) bool {
	parts, bytes := size(reflect.ValueOf(d))
	return 8*parts <= api.MaxNodes && 16*parts+6*bytes <= api.MaxText
}

// P7.1, P7.2: documents that may be have texts.
func TestMadeDocuments(t *testing.T) {
	m := maker{Rand: rand.New(rand.NewSource(7))}
	printed, short := 0, 0
	for range 6000 {
		d := m.document()
		has := hold(t, d)
		switch {
		case !doc.Check(d):
			t.Fatalf("%+v may not be", d)
		case isShort(d):
			short++
			if !has {
				t.Errorf("Doc(%+v) is empty", d)
			}
		case has:
			printed++
		}
	}
	if printed < 1000 || short < 1000 {
		t.Errorf("%d short ones, only %d others have texts", short, printed)
	}
}

// P7.1: of documents with wrong things in them just those that may be have texts.
func TestWrongDocuments(t *testing.T) {
	m := maker{Rand: rand.New(rand.NewSource(8)), wrong: 40}
	may, mayNot := 0, 0
	for range 10000 {
		d := m.document()
		has, check := hold(t, d), doc.Check(d)
		if has && !check || check && isShort(d) && !has {
			t.Errorf("Doc(%+v) is %q, Check %v", d, print.Doc(d), check)
		}
		switch {
		case has:
			may++
		case !check:
			mayNot++
		}
	}
	if may < 2000 || mayNot < 2000 {
		t.Errorf("%d may be, %d not", may, mayNot)
	}
}

// P7.2: whatever is parsed is parsed as the same again, where its text has room.
func FuzzDoc(f *testing.F) {
	for _, s := range []string{"{a}", "fragment F on T{a}{b}", `query Q($a:[A!]=[1]){a:b(x:"\u007f")@d{...F ...on T{c}...{d}}}`, `mutation{a(x:"""b""" y:{z:-1.5e3 z:$v})}`} {
		f.Add(s)
	}
	f.Fuzz(func(t *testing.T, s string) {
		if d, _, e := doc.Parse(s); e == api.OK && !hold(t, d) && 6*len(s) < api.MaxText/2 && len(s) < api.MaxNodes/2 {
			t.Errorf("%q has no text", s)
		}
	})
}
