package print

import (
	"slices"

	"refectory/api"
	"refectory/pen"
)

// isSame goes no further into a document than the parsed one goes, which has an end in any case.
func isSame(d, parsed api.Doc) bool {
	return slices.EqualFunc(d.Ops, parsed.Ops, isSameOperation) &&
		slices.EqualFunc(d.Frags, parsed.Frags, isSameFragment)
}

func isSameOperation(a, b api.Op) bool {
	return a.Mutation == b.Mutation &&
		a.Name == b.Name &&
		slices.EqualFunc(a.Vars, b.Vars, isSameVariable) &&
		slices.EqualFunc(a.Dirs, b.Dirs, isSameDirective) &&
		slices.EqualFunc(a.Sels, b.Sels, isSameSelection)
}

func isSameFragment(a, b api.Frag) bool {
	return a.Name == b.Name &&
		a.On == b.On &&
		slices.EqualFunc(a.Dirs, b.Dirs, isSameDirective) &&
		slices.EqualFunc(a.Sels, b.Sels, isSameSelection)
}

func isSameVariable(a, b api.VarDef) bool {
	return a.Name == b.Name && a.Type == b.Type && pen.Same(a.Default, b.Default)
}

func isSameDirective(a, b api.Dir) bool {
	return a.Name == b.Name && slices.EqualFunc(a.Args, b.Args, isSameArgument)
}

func isSameArgument(a, b api.Arg) bool {
	return a.Name == b.Name && pen.Same(a.Value, b.Value)
}

// isSameSelection asks for all parts, whatever the kind: those that a kind has not are not in the text.
func isSameSelection(a, b api.Sel) bool {
	return a.Kind == b.Kind &&
		a.Alias == b.Alias &&
		a.Name == b.Name &&
		a.On == b.On &&
		slices.EqualFunc(a.Args, b.Args, isSameArgument) &&
		slices.EqualFunc(a.Dirs, b.Dirs, isSameDirective) &&
		slices.EqualFunc(a.Sels, b.Sels, isSameSelection)
}
