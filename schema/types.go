package schema

import (
	"strings"

	"refectory/api"
	"refectory/value"
)

// Sub tells whether a type may stand for another one.
func Sub(x api.Schema, a, b api.Type) bool {
	return value.CheckType(a) && value.CheckType(b) &&
		subWraps(a.Wraps, b.Wraps) &&
		subName(x, a.Name, b.Name)
}

// subWraps asks what is around the names, from the outside in.
func subWraps(a, b string) bool {
	a, never := strings.CutSuffix(a, "!")
	b, must := strings.CutSuffix(b, "!")
	if must && !never {
		return false
	}
	a, many := strings.CutSuffix(a, "]")
	b, manyAsked := strings.CutSuffix(b, "]")
	if !many || !manyAsked {
		return many == manyAsked
	}
	return subWraps(a, b)
}

// subName takes the same name even where no type has it.
func subName(x api.Schema, a, b string) bool {
	if a == b {
		return true
	}
	find := typesOf(x)
	t, _ := find(a)
	asked, _ := find(b)
	mayStand := t.Kind == api.Object || t.Kind == api.Face && asked.Kind == api.Face
	return mayStand && members(asked)(t)
}

// In tells whether values of a type may come in.
func In(x api.Schema, t api.Type) bool {
	if !value.CheckType(t) {
		return false
	}
	switch Kind(x, t.Name) {
	case api.Scalar, api.Enums, api.Inputs:
		return true
	}
	return false
}

// Out tells whether values of a type may go out.
func Out(x api.Schema, t api.Type) bool {
	if !value.CheckType(t) {
		return false
	}
	switch Kind(x, t.Name) {
	case api.Scalar, api.Enums, api.Object, api.Face, api.Union:
		return true
	}
	return false
}
