package doc

import (
	"refectory/api"
	"refectory/runes"
	"refectory/value"
)

// Check tells whether a document may be: whether some text, however long, is parsed as it.
func Check(d api.Doc) bool {
	return len(d.Ops)+len(d.Frags) > 0 &&
		each(d.Ops, mayBeOperation) &&
		each(d.Frags, mayBeFragment)
}

func each[T any](parts []T, mayBe func(T) bool) bool {
	for _, part := range parts {
		if !mayBe(part) {
			return false
		}
	}
	return true
}

func mayBeOperation(o api.Op) bool {
	return isNameOrNone(o.Name) &&
		each(o.Vars, mayBeVariable) &&
		each(o.Dirs, mayBeDirective) &&
		depth(1).mayBeSet(o.Sels)
}

func mayBeFragment(f api.Frag) bool {
	return isFragmentName(f.Name) &&
		runes.Name(f.On) &&
		each(f.Dirs, mayBeDirective) &&
		depth(1).mayBeSet(f.Sels)
}

func mayBeVariable(v api.VarDef) bool {
	return runes.Name(v.Name) &&
		value.CheckType(v.Type) &&
		(isNoValue(v.Default) || isConstant(v.Default))
}

func mayBeDirective(d api.Dir) bool {
	return runes.Name(d.Name) && each(d.Args, mayBeArgument)
}

func mayBeArgument(a api.Arg) bool {
	return runes.Name(a.Name) && mayBeValue(a.Value)
}

// mayBeValue asks for the text, as just what Value could read has one.
func mayBeValue(v api.Value) bool {
	return value.Text(v) != ""
}

func isConstant(v api.Value) bool {
	return mayBeValue(v) && len(value.Vars(v)) == 0
}

// isNoValue asks for more than the kind: what has no value has nothing of one.
func isNoValue(v api.Value) bool {
	return v.Kind == 0 && v.S == "" && len(v.Names) == 0 && len(v.List) == 0
}

func isNameOrNone(s string) bool {
	return s == "" || runes.Name(s)
}

func isFragmentName(s string) bool {
	return s != "on" && runes.Name(s)
}

// depth is that of a set; the outermost one is 1 deep.
type depth int

func (d depth) mayBeSet(sels []api.Sel) bool {
	return len(sels) > 0 && d <= api.MaxDeep && each(sels, d.mayBeSelection)
}

// mayBeSelection holds each kind against the parts that it has not, too: no text would give them back.
func (d depth) mayBeSelection(s api.Sel) bool {
	if !each(s.Args, mayBeArgument) || !each(s.Dirs, mayBeDirective) {
		return false
	}
	switch s.Kind {
	case api.Field:
		return runes.Name(s.Name) && isNameOrNone(s.Alias) && s.On == "" &&
			(len(s.Sels) == 0 || (d + 1).mayBeSet(s.Sels))
	case api.Spread:
		return isFragmentName(s.Name) && s.Alias == "" && s.On == "" &&
			len(s.Args) == 0 && len(s.Sels) == 0
	case api.Inline:
		return s.Name == "" && s.Alias == "" && isNameOrNone(s.On) &&
			len(s.Args) == 0 && (d + 1).mayBeSet(s.Sels)
	}
	return false
}
