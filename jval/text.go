package jval

import (
	"strings"

	"refectory/api"
	"refectory/runes"
)

// Text is a value's text.
func Text(v api.Value) string {
	if !Check(v) {
		return ""
	}
	var out strings.Builder
	writeValue(&out, v)
	return out.String()
}

func writeValue(out *strings.Builder, v api.Value) {
	switch v.Kind {
	case api.Null:
		out.WriteString("null")
	case api.Str:
		out.WriteString(runes.Quote(v.S))
	case api.List:
		out.WriteByte('[')
		writeParts(out, v)
		out.WriteByte(']')
	case api.Obj:
		out.WriteByte('{')
		writeParts(out, v)
		out.WriteByte('}')
	default:
		out.WriteString(v.S)
	}
}

func writeParts(out *strings.Builder, v api.Value) {
	for i, part := range v.List {
		if i > 0 {
			out.WriteByte(',')
		}
		if v.Kind == api.Obj {
			out.WriteString(runes.Quote(v.Names[i]))
			out.WriteByte(':')
		}
		writeValue(out, part)
	}
}
