package jval

import (
	"slices"

	"refectory/api"
	"refectory/fresh"
)

// pair is two lists that are walked side by side.
type pair struct{ a, b []api.Value }

// Same tells whether values are alike.
//
// Nothing bounds how deep they are, as Check does: what is still to be held
// against each other is kept in a list, for calls must not nest without end.
func Same(a, b api.Value) bool {
	open := []pair{{[]api.Value{a}, []api.Value{b}}}
	for len(open) > 0 {
		last := &open[len(open)-1]
		if len(last.a) == 0 {
			open = open[:len(open)-1]
			continue
		}
		x, y := last.a[0], last.b[0]
		if !sameSelf(x, y) {
			return false
		}
		last.a, last.b = last.a[1:], last.b[1:]
		if len(x.List) > 0 {
			open = append(open, pair{x.List, y.List})
		}
	}
	return true
}

// sameSelf asks of the parts only how many they are.
func sameSelf(a, b api.Value) bool {
	return a.Kind == b.Kind && a.S == b.S && slices.Equal(a.Names, b.Names) && len(a.List) == len(b.List)
}

// Get is an object's value of a name.
func Get(v api.Value, name string) (api.Value, bool) {
	if v.Kind != api.Obj {
		return api.Value{}, false
	}
	at := slices.Index(v.Names, name)
	if at < 0 || at >= len(v.List) {
		return api.Value{}, false
	}
	return fresh.Value(v.List[at]), true
}
