package value

import (
	"slices"

	"refectory/api"
)

// Vars is the names of a value's variables.
//
// Like Same, it does not nest calls: what is still to be gone through is kept in a list.
func Vars(v api.Value) []string {
	var names []string
	seen := map[string]struct{}{}
	open := []api.Value{v}
	for len(open) > 0 {
		last := open[len(open)-1]
		open = open[:len(open)-1]
		if _, old := seen[last.S]; last.Kind == api.Var && !old {
			seen[last.S] = struct{}{}
			names = append(names, last.S)
		}
		for _, part := range slices.Backward(last.List) {
			open = append(open, part)
		}
	}
	return names
}
