package print

import (
	"strings"

	"refectory/api"
	"refectory/value"
)

// deepest is how many sets in one another are gone into: far more than a document
// may have, but a list that holds itself would have no end.
const deepest = 1 << 16

// writer makes a text of no more bytes than it has room for.
type writer struct {
	out  strings.Builder
	room int  // in bytes
	full bool // there was more than that: what is written is of no use
	sets int  // how many are open
}

func (w *writer) text() string {
	if w.full {
		return ""
	}
	return w.out.String()
}

// write writes texts right behind one another.
func (w *writer) write(texts ...string) {
	for _, s := range texts {
		w.full = w.full || len(s) > w.room
		if w.full {
			return
		}
		w.room -= len(s)
		w.out.WriteString(s)
	}
}

// several writes parts, each by write, with a text between two. It stops as soon as
// there is no room: lists that are shared may stand for more than could ever be written.
func several[T any](w *writer, write func(T), between string, parts ...T) {
	for i, part := range parts {
		if w.full {
			return
		}
		if i > 0 {
			w.write(between)
		}
		write(part)
	}
}

// inBrackets writes nothing where there are no parts.
func inBrackets[T any](w *writer, write func(T), parts ...T) {
	if len(parts) == 0 {
		return
	}
	w.write("(")
	several(w, write, " ", parts...)
	w.write(")")
}

// value leaves out what cannot have a text that fits, as Text does with what has none:
// the document is not parsed as it was then.
func (w *writer) value(v api.Value) {
	room := w.room
	if mayFit(v, 1, &room) {
		w.write(value.Text(v))
	}
}

// mayFit takes a byte of room for each value in v, as Text takes one at least. Like
// several it stops early; and it goes no deeper than Text, as v may hold itself.
func mayFit(v api.Value, depth int, room *int) bool {
	*room--
	if *room < 0 || depth > api.MaxDeep+1 {
		return false
	}
	for _, part := range v.List {
		if !mayFit(part, depth+1, room) {
			return false
		}
	}
	return true
}
