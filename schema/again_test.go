package schema_test

import (
	"math/rand"
	"reflect"
	"slices"
	"strings"
	"testing"

	"refectory/api"
	"refectory/schema"
	"refectory/value"
)

var pool = strings.Fields("A B C D F G U V E Int ID __typename")

// maker makes schemas by chance: of few names, so that they stand twice and where they should not.
type maker struct{ *rand.Rand }

func (m maker) names(most int) []string {
	var l []string
	for range m.Intn(most + 1) {
		l = append(l, pool[m.Intn(len(pool))])
	}
	return l
}

func (m maker) schema() api.Schema {
	var x api.Schema
	for range m.Intn(12) {
		kinds := []int{api.Object, api.Object, api.Object, api.Face, api.Face, api.Union, api.Union, api.Scalar, api.Enums, api.Inputs, 0, 7}
		y := named(kinds[m.Intn(len(kinds))], pool[m.Intn(len(pool))], m.names(5)...)
		for i, name := range m.names(3) {
			y.Fields = append(y.Fields, api.FieldDef{Name: name, Cost: 2 + i})
		}
		x.Types = append(x.Types, y)
	}
	return x
}

// known is the types by their names: from the last one on, so that the first one stays.
func known(x api.Schema) map[string]api.TypeDef {
	all := map[string]api.TypeDef{}
	for _, name := range []string{"Int", "Float", "String", "Boolean", "ID"} {
		all[name] = named(api.Scalar, name)
	}
	for _, y := range slices.Backward(x.Types) {
		all[y.Name] = y
	}
	return all
}

// mayBe tells whether a is an Object that b may be.
func mayBe(all map[string]api.TypeDef, a, b string) bool {
	o, of := all[a], all[b]
	return o.Kind == api.Object && (of.Kind == api.Object && a == b || of.Kind == api.Face && slices.Contains(o.Names, b) || of.Kind == api.Union && slices.Contains(of.Names, a))
}

// sub goes by the chapter's words, end by end.
func sub(all map[string]api.TypeDef, a, b api.Type) bool {
	if !value.CheckType(a) || !value.CheckType(b) {
		return false
	}
	ends := func(y api.Type, end string) bool { return strings.HasSuffix(y.Wraps, end) }
	without := func(y api.Type) api.Type { return api.Type{Name: y.Name, Wraps: y.Wraps[:len(y.Wraps)-1]} }
	switch {
	case ends(b, "!"):
		return ends(a, "!") && sub(all, without(a), without(b))
	case ends(a, "!"):
		return sub(all, without(a), b)
	case ends(a, "]") && ends(b, "]"):
		return sub(all, without(a), without(b))
	case ends(a, "]") || ends(b, "]"):
		return false
	}
	y, asked := all[a.Name], all[b.Name]
	return a.Name == b.Name ||
		(y.Kind == api.Object || y.Kind == api.Face) && asked.Kind == api.Face && slices.Contains(y.Names, b.Name) ||
		y.Kind == api.Object && asked.Kind == api.Union && slices.Contains(asked.Names, a.Name)
}

func holdNames(t *testing.T, x api.Schema, all map[string]api.TypeDef, a string) {
	t.Helper()
	want, wantOk := all[a]
	if got, ok := schema.Find(x, a); ok != wantOk || !reflect.DeepEqual(got, want) || schema.Kind(x, a) != want.Kind {
		t.Errorf("Find of %q in %+v is %+v, %v", a, x, got, ok)
	}
	var possible []string
	for _, y := range x.Types {
		if mayBe(all, y.Name, a) && !slices.Contains(possible, y.Name) {
			possible = append(possible, y.Name)
		}
	}
	if got := schema.Possible(x, a); !slices.Equal(got, possible) {
		t.Errorf("Possible of %q in %+v is %q, not %q", a, x, got, possible)
	}
	for _, b := range pool {
		meets := slices.ContainsFunc(possible, func(o string) bool { return mayBe(all, o, b) })
		if schema.Meets(x, a, b) != meets {
			t.Errorf("Meets of %q and %q in %+v is not %v", a, b, x, meets)
		}
		cost := map[bool]int{true: 1}[b == "__typename" && want.Kind >= api.Object && want.Kind <= api.Union]
		for _, f := range want.Fields {
			if cost == 0 && f.Name == b && (want.Kind == api.Object || want.Kind == api.Face) {
				cost = f.Cost
			}
		}
		if f, ok := schema.Field(x, a, b); ok != (cost > 0) || f.Cost != cost || ok && f.Name != b {
			t.Errorf("Field %q of %q in %+v is %+v, %v", b, a, x, f, ok)
		}
	}
}

// P9.1, P9.2: schemas of whatever types, by a second rule.
func TestMadeSchemas(t *testing.T) {
	m := maker{rand.New(rand.NewSource(9))}
	subs, meets := 0, 0
	for range 3000 {
		x := m.schema()
		all := known(x)
		for _, a := range pool {
			holdNames(t, x, all, a)
			for _, b := range pool {
				y, asked := api.Type{Name: a, Wraps: m.wraps()}, api.Type{Name: b, Wraps: m.wraps()}
				for _, pair := range [][2]api.Type{{y, asked}, {{Name: a}, {Name: b}}} {
					want := sub(all, pair[0], pair[1])
					if got := schema.Sub(x, pair[0], pair[1]); got != want {
						t.Errorf("Sub of %v in %+v is %v", pair, x, got)
					}
					if want && a != b {
						subs++
					}
				}
				if a != b && schema.Meets(x, a, b) {
					meets++
				}
			}
		}
	}
	if subs < 1000 || meets < 1000 {
		t.Errorf("%d stand for others, %d meet", subs, meets)
	}
}

// wraps is such as may be, most times.
func (m maker) wraps() string {
	all := []string{"", "!", "]", "!]", "]!", "!]!", "]]", "]!]", "!]!]!", "!!", "x"}
	return all[m.Intn(len(all))]
}

// allWraps are those of up to three lists.
func allWraps() []string {
	all := []string{"", "!"}
	for row := all; len(row) < 16; {
		var longer []string
		for _, wraps := range row {
			longer = append(longer, wraps+"]", wraps+"]!")
		}
		all = append(all, longer...)
		row = longer
	}
	return all
}

// holdOrder holds Sub among types against the laws of an order.
func holdOrder(t *testing.T, x api.Schema, types []api.Type) {
	t.Helper()
	for _, a := range types {
		if !schema.Sub(x, a, a) {
			t.Errorf("%v does not stand for itself in %+v", a, x)
		}
		var under []api.Type
		for _, b := range types {
			if !schema.Sub(x, a, b) {
				continue
			}
			under = append(under, b)
			if a != b && schema.Sub(x, b, a) {
				t.Errorf("%v and %v stand for each other in %+v", a, b, x)
			}
		}
		for _, b := range under {
			for _, c := range types {
				if schema.Sub(x, b, c) && !slices.Contains(under, c) {
					t.Errorf("%v for %v, that for %v, in %+v", a, b, c, x)
				}
			}
		}
	}
}

// P9.3: an order, where Faces have no Names (as those of schemas that may be have none).
func TestOrder(t *testing.T) {
	x := parse(t, house)
	for _, name := range []string{"Int", "Nope"} {
		var types []api.Type
		for _, wraps := range allWraps() {
			types = append(types, api.Type{Name: name, Wraps: wraps})
		}
		holdOrder(t, x, types)
	}
	var types []api.Type
	for _, name := range strings.Fields("Query Tree Pond Place Thing Some Whole E I Int") {
		for _, wraps := range []string{"", "!", "]", "!]", "]!", "!]!"} {
			types = append(types, api.Type{Name: name, Wraps: wraps})
		}
	}
	holdOrder(t, x, types)
	m := maker{rand.New(rand.NewSource(10))}
	for range 300 {
		x := m.schema()
		for i, y := range x.Types {
			if y.Kind == api.Face {
				x.Types[i].Names = nil
			}
		}
		types = nil
		for _, name := range pool {
			types = append(types, api.Type{Name: name}, api.Type{Name: name, Wraps: "!"})
		}
		holdOrder(t, x, types)
	}
}

// P9.1, P9.3: what stands for a composite type is nothing that this may not be.
func TestPossibleOfSub(t *testing.T) {
	m := maker{rand.New(rand.NewSource(11))}
	for range 300 {
		x := m.schema()
		for i, y := range x.Types {
			if y.Kind == api.Face {
				x.Types[i].Names = nil
			}
		}
		for _, a := range pool {
			for _, b := range pool {
				if !schema.Sub(x, api.Type{Name: a}, api.Type{Name: b}) {
					continue
				}
				for _, o := range schema.Possible(x, a) {
					if !slices.Contains(schema.Possible(x, b), o) {
						t.Errorf("%q is for %q, but %q is not, in %+v", a, b, o, x)
					}
				}
			}
		}
	}
}
