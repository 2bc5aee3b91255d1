package value

import (
	"strings"

	"refectory/api"
	"refectory/lex"
	"refectory/runes"
)

// Type is the type that stands at a place.
func Type(l []lex.Token, i int) (api.Type, int, bool) {
	r := readerAt(l, i)
	t, ok := r.typeOf()
	if !ok {
		return api.Type{}, i, false
	}
	return t, r.at, true
}

func (r *reader) typeOf() (api.Type, bool) {
	lists := 0
	// One list more stands where the name must be.
	for lists < api.MaxDeep && r.takeSign("[") {
		lists++
	}
	name, ok := r.takeName()
	if !ok {
		return api.Type{}, false
	}
	wraps := r.bang()
	for range lists {
		if !r.takeSign("]") {
			return api.Type{}, false
		}
		wraps += "]" + r.bang()
	}
	return api.Type{Name: name, Wraps: wraps}, true
}

// bang is the one ! that may stand here, or nothing.
func (r *reader) bang() string {
	if r.takeSign("!") {
		return "!"
	}
	return ""
}

// CheckType tells whether a type may be.
func CheckType(t api.Type) bool {
	return runes.Name(t.Name) &&
		strings.Trim(t.Wraps, "!]") == "" &&
		!strings.Contains(t.Wraps, "!!") &&
		strings.Count(t.Wraps, "]") <= api.MaxDeep
}

// TypeText is a type's text.
func TypeText(t api.Type) string {
	if !CheckType(t) {
		return ""
	}
	// Wraps tells how each list ends, from the inside out: just what stands behind the name.
	return strings.Repeat("[", strings.Count(t.Wraps, "]")) + t.Name + t.Wraps
}
