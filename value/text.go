package value

import (
	"strings"

	"refectory/api"
	"refectory/runes"
)

// Text is a value's text.
func Text(v api.Value) string {
	var out strings.Builder
	if !write(&out, nodeOf(v), 1) {
		return ""
	}
	return out.String()
}

// write answers false at the first node that Value could not read: what it wrote till then is of no use.
func write(out *strings.Builder, n node, depth int) bool {
	if !n.readable() {
		return false
	}
	switch n := n.(type) {
	case list:
		return writeParts(out, "[", nil, n.List, "]", depth)
	case object:
		return writeParts(out, "{", n.Names, n.List, "}", depth)
	case leaf:
		out.WriteString(n.text())
	}
	return true
}

func (n leaf) text() string {
	switch n.Kind {
	case api.Null:
		return "null"
	case api.Str:
		return runes.Quote(n.S)
	case api.Var:
		return "$" + n.S
	}
	return n.S
}

// writeParts takes as many names as parts, or none.
func writeParts(out *strings.Builder, begin string, names []string, parts []api.Value, end string, depth int) bool {
	if depth > api.MaxDeep {
		return false
	}
	out.WriteString(begin)
	for i, part := range parts {
		if i > 0 {
			out.WriteByte(' ')
		}
		if len(names) > 0 {
			out.WriteString(names[i])
			out.WriteByte(':')
		}
		if !write(out, nodeOf(part), depth+1) {
			return false
		}
	}
	out.WriteString(end)
	return true
}
