package sdl

import (
	"strconv"

	"refectory/api"
	"refectory/pen"
	"refectory/value"
)

// writer writes the parts of schemas.
type writer struct {
	*pen.Pen
	forms map[int]form
}

// form is how definitions of one kind are written: the word that they begin with, and what stands behind the name.
type form struct {
	word string
	rest func(api.TypeDef)
}

func newWriter() *writer {
	w := &writer{Pen: pen.New(api.MaxSchema)}
	w.forms = map[int]form{
		api.Scalar: {"scalar", w.nothing},
		api.Object: {"type", w.object},
		api.Face:   {"interface", w.fields},
		api.Union:  {"union", w.union},
		api.Enums:  {"enum", w.enums},
		api.Inputs: {"input", w.inputs},
	}
	return w
}

func (w *writer) schema(x api.Schema) {
	w.Write("schema{query:", x.Query)
	if x.Mutation != "" {
		w.Write(" mutation:", x.Mutation)
	}
	w.Write("}")
	pen.Several(w.Pen, w.definition, "", x.Types...)
}

// definition writes nothing of a kind that is none: no type is parsed as such a one.
func (w *writer) definition(t api.TypeDef) {
	if f, ok := w.forms[t.Kind]; ok {
		w.Write(" ", f.word, " ", t.Name)
		f.rest(t)
	}
}

func (w *writer) nothing(api.TypeDef) {}

func (w *writer) object(t api.TypeDef) {
	if len(t.Names) > 0 {
		w.Write(" implements ")
		pen.Several(w.Pen, w.name, "&", t.Names...)
	}
	w.fields(t)
}

func (w *writer) fields(t api.TypeDef) {
	pen.InBraces(w.Pen, w.field, t.Fields...)
}

func (w *writer) union(t api.TypeDef) {
	w.Write("=")
	pen.Several(w.Pen, w.name, "|", t.Names...)
}

func (w *writer) enums(t api.TypeDef) {
	pen.InBraces(w.Pen, w.name, t.Names...)
}

func (w *writer) inputs(t api.TypeDef) {
	pen.InBraces(w.Pen, w.input, t.Inputs...)
}

func (w *writer) name(s string) { w.Write(s) }

func (w *writer) field(f api.FieldDef) {
	w.Write(f.Name)
	pen.InBrackets(w.Pen, w.input, f.Args...)
	w.Write(":", value.TypeText(f.Type), "@cost(n:", strconv.Itoa(f.Cost), ")")
}

func (w *writer) input(i api.Input) {
	w.Write(i.Name, ":", value.TypeText(i.Type))
	w.Default(i.Default)
}
