package value

import (
	"refectory/api"
	"refectory/jval"
	"refectory/runes"
)

// node is a value by its shape: a leaf, a list or an object. What is asked of a
// shape differs from walk to walk, so that walks ask which of the three it is.
type node interface {
	// readable tells whether Value could read it, were its parts such.
	readable() bool
}

type (
	leaf   api.Value
	list   api.Value
	object api.Value
)

func nodeOf(v api.Value) node {
	switch v.Kind {
	case api.List:
		return list(v)
	case api.Obj:
		return object(v)
	}
	return leaf(v)
}

func (n list) readable() bool {
	return n.S == "" && len(n.Names) == 0
}

func (n object) readable() bool {
	if n.S != "" || len(n.Names) != len(n.List) {
		return false
	}
	for _, name := range n.Names {
		if !runes.Name(name) {
			return false
		}
	}
	return true
}

func (n leaf) readable() bool {
	if len(n.Names) > 0 || len(n.List) > 0 {
		return false
	}
	switch n.Kind {
	case api.Null:
		return n.S == ""
	case api.Int, api.Dec:
		whole, ok := jval.Number(n.S)
		return ok && whole == (n.Kind == api.Int)
	case api.Str:
		return runes.Valid(n.S)
	case api.Var:
		return runes.Name(n.S)
	case api.Bool, api.Enum:
		// A name tells by itself which of the two it is.
		return runes.Name(n.S) && word(n.S).Kind == n.Kind
	}
	return false
}
