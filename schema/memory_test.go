package schema_test

import (
	"reflect"
	"strconv"
	"strings"
	"testing"

	"refectory/api"
	"refectory/schema"
)

// rich has lists wherever there may be some; shared, wherever that can be.
func rich() api.Schema {
	v := api.Value{Kind: api.Obj, Names: []string{"a", "b"}, List: []api.Value{{Kind: api.List, List: []api.Value{{Kind: api.Int, S: "1"}}}, {Kind: api.Null}}}
	inputs := []api.Input{{Name: "i", Type: api.Type{Name: "I"}, Default: v}, {Name: "j", Default: v}}
	fields := []api.FieldDef{{Name: "f", Args: inputs, Cost: 3}, {Name: "g", Args: inputs[:1], Cost: 4}}
	names := []string{"F", "A", "B"}
	x := api.Schema{Query: "A"}
	for i, kind := range []int{api.Object, api.Object, api.Face, api.Union, api.Enums, api.Inputs, api.Scalar} {
		x.Types = append(x.Types, api.TypeDef{Kind: kind, Name: "ABFUEIS"[i : i+1], Names: names, Fields: fields, Inputs: inputs})
	}
	return x
}

func ruinValue(v api.Value) {
	names, parts := v.Names[:cap(v.Names)], v.List[:cap(v.List)]
	for i := range names {
		names[i] = "ruined"
	}
	for i := range parts {
		ruinValue(parts[i])
		parts[i] = api.Value{Kind: 77}
	}
}

func ruinInputs(l []api.Input) {
	l = l[:cap(l)]
	for i := range l {
		ruinValue(l[i].Default)
		l[i] = api.Input{Name: "ruined"}
	}
}

func ruinFields(l []api.FieldDef) {
	l = l[:cap(l)]
	for i := range l {
		ruinInputs(l[i].Args)
		l[i] = api.FieldDef{Name: "ruined"}
	}
}

func ruinNames(l []string) {
	l = l[:cap(l)]
	for i := range l {
		l[i] = "ruined"
	}
}

// R3: what is answered is new memory, to the innermost list, and its spare room.
func TestNewMemory(t *testing.T) {
	x := rich()
	for _, name := range strings.Split("ABFUEIS", "") {
		y, _ := schema.Find(x, name)
		again, _ := schema.Find(x, name)
		ruinValue(y.Inputs[0].Default)
		if !reflect.DeepEqual(y.Inputs[1:], again.Inputs[1:]) || !reflect.DeepEqual(y.Fields, again.Fields) {
			t.Errorf("two lists of %s share memory", name)
		}
		ruinInputs(y.Inputs)
		ruinInputs(y.Fields[0].Args)
		if !reflect.DeepEqual(y.Fields[1], again.Fields[1]) {
			t.Errorf("two fields of %s share memory", name)
		}
		ruinFields(y.Fields)
		ruinNames(y.Names)
		f, _ := schema.Field(x, name, "f")
		ruinInputs(f.Args)
		ruinNames(schema.Possible(x, name))
		if !reflect.DeepEqual(x, rich()) {
			t.Fatalf("what is told of %s shares memory with the schema", name)
		}
	}
	first, _ := schema.Field(x, "F", "f")
	second, _ := schema.Field(x, "F", "f")
	ruinValue(first.Args[0].Default)
	if !reflect.DeepEqual(first.Args[1], second.Args[1]) {
		t.Error("two arguments share memory")
	}
}

// R3: nothing that is handed in is kept, and a list that is empty is none.
func TestNothingIsKept(t *testing.T) {
	x := rich()
	y, _ := schema.Find(x, "A")
	f, _ := schema.Field(x, "A", "f")
	possible := schema.Possible(x, "U")
	want := rich().Types[0]
	ruinNames(x.Types[0].Names)
	ruinFields(x.Types[0].Fields)
	ruinInputs(x.Types[0].Inputs)
	clear(x.Types)
	if !reflect.DeepEqual(y, want) || !reflect.DeepEqual(f, want.Fields[0]) || strings.Join(possible, " ") != "A B" {
		t.Errorf("what was told is another thing now: %+v, %+v, %q", y, f, possible)
	}
	if got, ok := schema.Find(x, "A"); ok {
		t.Errorf("what is no longer there is found: %+v", got)
	}
	none := api.Schema{Types: []api.TypeDef{{Kind: api.Object, Name: "A", Names: []string{}, Fields: []api.FieldDef{}, Inputs: []api.Input{}}}}
	if got, ok := schema.Find(none, "A"); !ok || len(got.Names)+len(got.Fields)+len(got.Inputs) != 0 || len(schema.Possible(none, "U")) != 0 {
		t.Errorf("%+v, %v", got, ok)
	}
}

// R1: a default that is very deep is copied; one that holds itself is nothing to those who don't tell it.
func TestDeepDefaults(t *testing.T) {
	deep, around := api.Value{Kind: api.Null}, []api.Value{{Kind: api.List}}
	const n = 1 << 20
	for range n {
		deep = api.Value{Kind: api.List, List: []api.Value{deep}}
	}
	around[0].List = around
	x := api.Schema{Types: []api.TypeDef{
		{Kind: api.Inputs, Name: "I", Inputs: []api.Input{{Name: "a", Default: deep}}},
		{Kind: api.Object, Name: "A", Names: []string{"F"}, Fields: []api.FieldDef{{Name: "a", Args: []api.Input{{Default: around[0]}}}, {Name: "b", Cost: 7}}, Inputs: []api.Input{{Default: around[0]}}},
		{Kind: api.Face, Name: "F", Inputs: []api.Input{{Default: around[0]}}},
	}}
	y, ok := schema.Find(x, "I")
	if !ok || len(y.Inputs) != 1 {
		t.Fatalf("%v, %d", ok, len(y.Inputs))
	}
	depth := 0
	for v := y.Inputs[0].Default; len(v.List) > 0; v = v.List[0] {
		depth++
	}
	if depth != n {
		t.Errorf("%d deep", depth)
	}
	a, f := api.Type{Name: "A"}, api.Type{Name: "F"}
	b, ok := schema.Field(x, "A", "b")
	if !ok || b.Cost != 7 || schema.Kind(x, "A") != api.Object || len(schema.Possible(x, "F")) != 1 || !schema.Meets(x, "A", "F") || !schema.Sub(x, a, f) || schema.In(x, a) || !schema.Out(x, f) {
		t.Error("A default turns what has nothing to do with it")
	}
}

// R1, R5: many types and names, each of which is asked of the others.
func TestMuch(t *testing.T) {
	const n = 1 << 16
	var x api.Schema
	union := api.TypeDef{Kind: api.Union, Name: "U"}
	for i := range n {
		name := "a" + strconv.Itoa(i)
		x.Types = append(x.Types, named(api.Object, name, "F"))
		union.Names = append(union.Names, name)
	}
	x.Types = append(x.Types, union, named(api.Face, "F"), named(api.Union, "V", "a65535", "b"))
	for _, name := range []string{"U", "F"} {
		if got := schema.Possible(x, name); len(got) != n || got[n-1] != "a65535" {
			t.Errorf("Possible of %s is %d", name, len(got))
		}
	}
	if !schema.Meets(x, "U", "V") || !schema.Meets(x, "F", "V") || schema.Meets(x, "V", "a1") {
		t.Error("Meets of many")
	}
}
