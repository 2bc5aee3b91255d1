package schema

import (
	"refectory/api"
	"refectory/fresh"
)

func copyOfType(t api.TypeDef) api.TypeDef {
	t.Names = fresh.Names(t.Names)
	t.Fields = fresh.List(t.Fields, copyOfField)
	t.Inputs = fresh.List(t.Inputs, copyOfInput)
	return t
}

func copyOfField(f api.FieldDef) api.FieldDef {
	f.Args = fresh.List(f.Args, copyOfInput)
	return f
}

func copyOfInput(i api.Input) api.Input {
	i.Default = fresh.Value(i.Default)
	return i
}
