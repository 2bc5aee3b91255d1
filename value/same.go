package value

import (
	"slices"
	"strconv"
	"strings"

	"refectory/api"
)

// Same tells whether values are the same.
//
// Nothing bounds how deep they are, so that calls must not nest; and objects ask
// for no order. Thus each value gets a number, the parts ahead of what they are
// parts of, and those that are the same get the same one.
func Same(a, b api.Value) bool {
	spots := spread([]api.Value{a, b})
	numbers := make([]int, len(spots))
	known := map[likeness]int{}
	for i, s := range slices.Backward(spots) {
		of := likenessOf(s.value, numbers[s.parts:])
		if _, old := known[of]; !old {
			known[of] = len(known)
		}
		numbers[i] = known[of]
	}
	return numbers[0] == numbers[1]
}

// spot is a value, and at which place of its list its parts begin.
type spot struct {
	value *api.Value
	parts int
}

// spread is these values and all that is in them, each ahead of its parts.
func spread(top []api.Value) []spot {
	var spots []spot
	open := [][]api.Value{top}
	next := len(top)
	for len(open) > 0 {
		row := open[0]
		open = open[1:]
		for i := range row {
			spots = append(spots, spot{&row[i], next})
			if parts := row[i].List; len(parts) > 0 {
				open = append(open, parts)
				next += len(parts)
			}
		}
	}
	return spots
}

// likeness is all that tells a value from another one; its parts are told by their numbers.
type likeness struct {
	kind, names, values int
	s, parts            string
}

func likenessOf(v *api.Value, numbers []int) likeness {
	l := likeness{kind: v.Kind, s: v.S, names: len(v.Names), values: len(v.List)}
	switch n := nodeOf(*v).(type) {
	case list:
		l.parts = strings.Join(texts(numbers[:len(n.List)]), ",")
	case object:
		// Each begins with its length, so that no two rows of names and numbers read alike.
		parts := named(n, texts(numbers[:len(n.List)]))
		slices.Sort(parts)
		l.parts = strings.Join(parts, ",")
	}
	return l
}

func texts(numbers []int) []string {
	all := make([]string, len(numbers))
	for i, number := range numbers {
		all[i] = strconv.Itoa(number)
	}
	return all
}

// named is each name with its value; a name that has none stands by itself, a value that has none says nothing.
func named(n object, values []string) []string {
	all := make([]string, len(n.Names))
	for i, name := range n.Names {
		all[i] = strconv.Itoa(len(name)) + ":" + name
		if i < len(values) {
			all[i] += "=" + values[i]
		}
	}
	return all
}
