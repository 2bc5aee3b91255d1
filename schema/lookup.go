package schema

import (
	"iter"
	"slices"

	"refectory/api"
)

// lookUp finds what has a name. What it finds shares its lists with the schema.
type lookUp[T any] func(name string) (T, bool)

// firstOf finds the first of a list that has the name.
func firstOf[T any](l []T, nameOf func(T) string) lookUp[T] {
	return func(name string) (found T, ok bool) {
		at := slices.IndexFunc(l, func(t T) bool { return nameOf(t) == name })
		if at >= 0 {
			found, ok = l[at], true
		}
		return found, ok
	}
}

// inTurn asks one behind the other: what an earlier one finds, no later one is asked for.
func inTurn[T any](all ...lookUp[T]) lookUp[T] {
	return func(name string) (found T, ok bool) {
		for _, find := range all {
			if found, ok = find(name); ok {
				break
			}
		}
		return found, ok
	}
}

func typesOf(x api.Schema) lookUp[api.TypeDef] {
	return inTurn(firstOf(x.Types, typeName), givenScalar)
}

func typeName(t api.TypeDef) string { return t.Name }

// givenScalar finds the scalars that no schema has to tell.
func givenScalar(name string) (api.TypeDef, bool) {
	switch name {
	case "Int", "Float", "String", "Boolean", "ID":
		return api.TypeDef{Kind: api.Scalar, Name: name}, true
	}
	return api.TypeDef{}, false
}

// fieldsOf finds by the type's kind, whatever else is written into the type.
func fieldsOf(t api.TypeDef) lookUp[api.FieldDef] {
	switch t.Kind {
	case api.Object, api.Face:
		return inTurn(givenField, firstOf(t.Fields, fieldName))
	case api.Union:
		return givenField
	}
	return inTurn[api.FieldDef]()
}

func fieldName(f api.FieldDef) string { return f.Name }

// givenField finds the field that each composite type has without telling it.
func givenField(name string) (api.FieldDef, bool) {
	if name != "__typename" {
		return api.FieldDef{}, false
	}
	return api.FieldDef{Name: name, Type: api.Type{Name: "String", Wraps: "!"}, Cost: 1}, true
}

// membersOf tells of objects whether they are what the type of a name may be.
func membersOf(x api.Schema, name string) func(api.TypeDef) bool {
	t, _ := typesOf(x)(name)
	return members(t)
}

func members(t api.TypeDef) func(api.TypeDef) bool {
	switch t.Kind {
	case api.Object:
		return func(o api.TypeDef) bool { return o.Name == t.Name }
	case api.Face:
		return func(o api.TypeDef) bool { return slices.Contains(o.Names, t.Name) }
	case api.Union:
		has := among(t.Names)
		return func(o api.TypeDef) bool { return has(o.Name) }
	}
	return func(api.TypeDef) bool { return false }
}

// among goes through the names once, for however many it is asked.
func among(names []string) func(string) bool {
	set := map[string]struct{}{}
	for _, name := range names {
		set[name] = struct{}{}
	}
	return func(name string) bool {
		_, ok := set[name]
		return ok
	}
}

// objects goes through a schema's objects, but those whose name an earlier type has, of whatever kind.
func objects(x api.Schema) iter.Seq[api.TypeDef] {
	return func(yield func(api.TypeDef) bool) {
		seen := map[string]struct{}{}
		for _, t := range x.Types {
			_, old := seen[t.Name]
			seen[t.Name] = struct{}{}
			if !old && t.Kind == api.Object && !yield(t) {
				return
			}
		}
	}
}
