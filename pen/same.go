package pen

import (
	"slices"

	"refectory/api"
)

// Same tells whether what is read back is just the value that was written. It asks for
// more than layer 5's Same: an object's names stand in one order.
func Same(v, back api.Value) bool {
	return v.Kind == back.Kind &&
		v.S == back.S &&
		slices.Equal(v.Names, back.Names) &&
		slices.EqualFunc(v.List, back.List, Same)
}
