// Package pen: texts of no more than so many bytes, for the layers that write documents and schemas.
package pen

import (
	"strings"

	"refectory/api"
	"refectory/value"
)

// Pen makes a text of no more bytes than it has room for.
type Pen struct {
	out  strings.Builder
	room int  // in bytes
	full bool // there was more than that: what is written is of no use
}

// New has nothing written yet.
func New(room int) *Pen { return &Pen{room: room} }

// Text is what is written; empty, if it is too much.
func (p *Pen) Text() string {
	if p.full {
		return ""
	}
	return p.out.String()
}

// Fill says that there is too much.
func (p *Pen) Fill() { p.full = true }

// Write writes texts right behind one another.
func (p *Pen) Write(texts ...string) {
	for _, s := range texts {
		p.full = p.full || len(s) > p.room
		if p.full {
			return
		}
		p.room -= len(s)
		p.out.WriteString(s)
	}
}

// Several writes parts, each by write, with a text between two. It stops as soon as
// there is no room: lists that are shared may stand for more than could ever be written.
func Several[T any](p *Pen, write func(T), between string, parts ...T) {
	for i, part := range parts {
		if p.full {
			return
		}
		if i > 0 {
			p.Write(between)
		}
		write(part)
	}
}

// InBrackets writes nothing where there are no parts.
func InBrackets[T any](p *Pen, write func(T), parts ...T) {
	if len(parts) == 0 {
		return
	}
	p.Write("(")
	Several(p, write, " ", parts...)
	p.Write(")")
}

// InBraces writes the braces where there are no parts, too.
func InBraces[T any](p *Pen, write func(T), parts ...T) {
	p.Write("{")
	Several(p, write, " ", parts...)
	p.Write("}")
}

// Value leaves out what has no text: no text is parsed as what has that in it.
func (p *Pen) Value(v api.Value) {
	room := p.room
	switch {
	case mayFit(v, 1, &room):
		p.Write(value.Text(v))
	case room < 0:
		p.Fill()
	}
}

// Default writes a value behind =; nothing, if there is none.
func (p *Pen) Default(v api.Value) {
	if v.Kind != 0 {
		p.Write("=")
		p.Value(v)
	}
}

// mayFit takes a byte of room for each value in v, as Text takes one at least. Like
// Several it stops early, so that Text is not asked for what could never be written;
// and it goes no deeper than Text, as v may hold itself.
func mayFit(v api.Value, depth int, room *int) bool {
	*room--
	if *room < 0 || depth > api.MaxDeep+1 {
		return false
	}
	for _, part := range v.List {
		if !mayFit(part, depth+1, room) {
			return false
		}
	}
	return true
}
