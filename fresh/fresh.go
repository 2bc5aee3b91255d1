// Package fresh: copies that share no list with what they are copies of, for the layers that answer what they were handed.
package fresh

import "refectory/api"

// Value is a copy of a value. Nothing bounds how deep a value is, so that calls must
// not nest: lists whose items still share theirs with v are kept in a list.
func Value(v api.Value) api.Value {
	top := []api.Value{v}
	open := [][]api.Value{top}
	for len(open) > 0 {
		parts := open[len(open)-1]
		open = open[:len(open)-1]
		for i, part := range parts {
			parts[i].Names = Names(part.Names)
			parts[i].List = append([]api.Value(nil), part.List...)
			if len(part.List) > 0 {
				open = append(open, parts[i].List)
			}
		}
	}
	return top[0]
}

// Names is a copy of names.
func Names(l []string) []string { return append([]string(nil), l...) }

// List is a copy of a list, its items copied by one.
func List[T any](l []T, one func(T) T) []T {
	l = append([]T(nil), l...)
	for i, item := range l {
		l[i] = one(item)
	}
	return l
}
