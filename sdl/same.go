package sdl

import (
	"slices"

	"refectory/api"
	"refectory/pen"
)

// isSame asks for all parts, whatever the kinds: those that a kind has not are not in the text.
func isSame(x, parsed api.Schema) bool {
	return x.Query == parsed.Query &&
		x.Mutation == parsed.Mutation &&
		slices.EqualFunc(x.Types, parsed.Types, isSameType)
}

func isSameType(a, b api.TypeDef) bool {
	return a.Kind == b.Kind &&
		a.Name == b.Name &&
		slices.Equal(a.Names, b.Names) &&
		slices.EqualFunc(a.Fields, b.Fields, isSameField) &&
		slices.EqualFunc(a.Inputs, b.Inputs, isSameInput)
}

func isSameField(a, b api.FieldDef) bool {
	return a.Name == b.Name &&
		a.Type == b.Type &&
		a.Cost == b.Cost &&
		slices.EqualFunc(a.Args, b.Args, isSameInput)
}

func isSameInput(a, b api.Input) bool {
	return a.Name == b.Name && a.Type == b.Type && pen.Same(a.Default, b.Default)
}
