package sdl_test

import (
	"fmt"
	"math/rand"
	"strings"
	"testing"

	"refectory/api"
	"refectory/runes"
	"refectory/sdl"
	"refectory/value"
)

// maker makes schemas by chance; one thing of so many is wrong (0: none).
type maker struct {
	*rand.Rand
	wrong int
}

func (m maker) isWrong() bool { return m.wrong > 0 && m.Intn(m.wrong) == 0 }

func (m maker) name() string {
	if m.isWrong() {
		return wrongNames[m.Intn(len(wrongNames))]
	}
	l := strings.Fields("a b cc _1 A Query Mutation schema type implements cost n true null " + strings.Repeat("n", 40))
	return l[m.Intn(len(l))]
}

// several is from least up to two of what one makes; none is nil.
func several[T any](m maker, least int, one func() T) []T {
	if m.isWrong() {
		least = 0
	}
	var l []T
	for range least + m.Intn(3-least) {
		l = append(l, one())
	}
	return l
}

func (m maker) schema() api.Schema {
	x := api.Schema{Query: m.name(), Types: several(m, 0, m.definition)}
	if m.Intn(2) == 0 {
		x.Mutation = m.name()
	}
	return x
}

func (m maker) definition() api.TypeDef {
	y := api.TypeDef{Kind: 1 + m.Intn(6), Name: m.name()}
	if m.isWrong() {
		y.Kind = m.Intn(9) - 1
	}
	if y.Kind == api.Union || y.Kind == api.Enums || m.isWrong() {
		y.Names = several(m, 1, m.name)
	}
	if y.Kind == api.Object {
		y.Names = several(m, 0, m.name)
	}
	if y.Kind == api.Object || y.Kind == api.Face || m.isWrong() {
		y.Fields = several(m, 1, m.field)
	}
	if y.Kind == api.Inputs || m.isWrong() {
		y.Inputs = several(m, 1, m.input)
	}
	return y
}

func (m maker) field() api.FieldDef {
	costs := []int{1, 1, 0, 7, -3, 999999, 1000000, -1000000}
	if m.isWrong() {
		costs = []int{1000001, -1000001, 1 << 40}
	}
	return api.FieldDef{Name: m.name(), Args: several(m, 0, m.input), Type: m.typed(), Cost: costs[m.Intn(len(costs))]}
}

func (m maker) typed() api.Type {
	wraps := []string{"", "!", "]", "!]", "]!", "!]!", "]]", strings.Repeat("!]", 12) + "!"}
	if m.isWrong() {
		wraps = []string{"!!", " ", "[", strings.Repeat("]", 13)}
	}
	return api.Type{Name: m.name(), Wraps: wraps[m.Intn(len(wraps))]}
}

func (m maker) input() api.Input {
	i := api.Input{Name: m.name(), Type: m.typed()}
	if m.Intn(2) == 0 {
		i.Default = m.value(1)
	}
	return i
}

func (m maker) value(deep int) api.Value {
	v := []api.Value{{Kind: api.Null}, {Kind: api.Bool, S: "true"}, num("0"), num("-12"), {Kind: api.Dec, S: "-1.5E+2"}, text(""), text("a b}\"\\\n\x7f"), text("\u00e9$x"), word("RED"), word("a"), {Kind: api.List}, {Kind: api.Obj}}[m.Intn(12)]
	if m.isWrong() {
		v.S = "1"
	}
	if m.isWrong() {
		v.Kind = m.Intn(12)
	}
	if deep < 4 && (v.Kind == api.List || v.Kind == api.Obj || m.isWrong()) {
		v.List = several(m, 0, func() api.Value { return m.value(deep + 1) })
	}
	if v.Kind == api.Obj {
		for range v.List {
			v.Names = append(v.Names, m.name())
		}
	}
	return v
}

// mayBe tells part by part whether a text is parsed as a schema, however long.
func mayBe(x api.Schema) bool {
	ok := runes.Name(x.Query) && (x.Mutation == "" || runes.Name(x.Mutation))
	inputs := func(l []api.Input) {
		for _, i := range l {
			none := exact(i.Default, api.Value{})
			ok = ok && runes.Name(i.Name) && value.CheckType(i.Type) && (none || value.Text(i.Default) != "" && len(value.Vars(i.Default)) == 0)
		}
	}
	for _, y := range x.Types {
		names, fields, ins := len(y.Names), len(y.Fields), len(y.Inputs)
		ok = ok && runes.Name(y.Name) && y.Kind >= api.Scalar && y.Kind <= api.Inputs
		ok = ok && (fields > 0) == (y.Kind == api.Object || y.Kind == api.Face) && (ins > 0) == (y.Kind == api.Inputs)
		ok = ok && (y.Kind == api.Object || (names > 0) == (y.Kind == api.Union || y.Kind == api.Enums))
		for _, name := range y.Names {
			ok = ok && runes.Name(name)
		}
		for _, f := range y.Fields {
			ok = ok && runes.Name(f.Name) && value.CheckType(f.Type) && f.Cost >= -1000000 && f.Cost <= 1000000
			inputs(f.Args)
		}
		inputs(y.Inputs)
	}
	return ok
}

// told is a schema's text by and large: whatever the schema, however long.
func told(x api.Schema) string {
	all := "schema{query:" + x.Query
	if x.Mutation != "" {
		all += " mutation:" + x.Mutation
	}
	all += "}"
	for _, y := range x.Types {
		fields := make([]string, len(y.Fields))
		for i, f := range y.Fields {
			fields[i] = f.Name
			if len(f.Args) > 0 {
				fields[i] += "(" + toldInputs(f.Args) + ")"
			}
			fields[i] += fmt.Sprintf(":%s@cost(n:%d)", value.TypeText(f.Type), f.Cost)
		}
		set := "{" + strings.Join(fields, " ") + "}"
		faces := ""
		if len(y.Names) > 0 {
			faces = " implements " + strings.Join(y.Names, "&")
		}
		all += [...]string{"", "scalar " + y.Name, "type " + y.Name + faces + set, "interface " + y.Name + set, "union " + y.Name + "=" + strings.Join(y.Names, "|"), "enum " + y.Name + "{" + strings.Join(y.Names, " ") + "}", "input " + y.Name + "{" + toldInputs(y.Inputs) + "}"}[y.Kind] + " "
	}
	return strings.TrimSuffix(strings.Replace(all, "}", "} ", 1), " ")
}

func toldInputs(l []api.Input) string {
	all := make([]string, len(l))
	for i, in := range l {
		all[i] = in.Name + ":" + value.TypeText(in.Type)
		if in.Default.Kind != 0 {
			all[i] += "=" + value.Text(in.Default)
		}
	}
	return strings.Join(all, " ")
}

// holdText tells whether the schema has a text: just one that may be, and that has room.
func holdText(t *testing.T, x api.Schema) bool {
	t.Helper()
	want := ""
	if mayBe(x) && len(told(x)) <= api.MaxSchema {
		want = told(x)
	}
	got := sdl.Text(x)
	if got != want {
		t.Errorf("Text(%+v) is %q, not %q", x, got, want)
	}
	if got == "" {
		return false
	}
	if back, at, e := sdl.Parse(got); e != api.OK || at != 0 || !exact(back, x) {
		t.Errorf("%q, the text of %+v, is parsed as %+v, %d, %d", got, x, back, at, e)
	}
	return true
}

// P8.3, P8.4: schemas that may be have texts.
func TestMadeSchemas(t *testing.T) {
	m := maker{Rand: rand.New(rand.NewSource(8))}
	for range 5000 {
		x := m.schema()
		if !mayBe(x) {
			t.Fatalf("%+v may not be", x)
		}
		if !holdText(t, x) {
			t.Errorf("%+v has no text", x)
		}
	}
}

// P8.3, P8.4: schemas of more parts than there is room for have none.
func TestLongSchemas(t *testing.T) {
	m := maker{Rand: rand.New(rand.NewSource(9))}
	long, short := 0, 0
	for i := range 400 {
		x := m.schema()
		for range i {
			x.Types = append(x.Types, m.definition())
		}
		if holdText(t, x) {
			short++
		} else {
			long++
		}
	}
	if long < 100 || short < 100 {
		t.Errorf("%d are long, %d short", long, short)
	}
}

// P8.3: of schemas with wrong things in them just those that may be have texts.
func TestWrongSchemas(t *testing.T) {
	m := maker{Rand: rand.New(rand.NewSource(10)), wrong: 30}
	may, mayNot := 0, 0
	for range 20000 {
		if holdText(t, m.schema()) {
			may++
		} else {
			mayNot++
		}
	}
	if may < 3000 || mayNot < 3000 {
		t.Errorf("%d may be, %d not", may, mayNot)
	}
}
