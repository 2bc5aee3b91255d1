package print

import (
	"refectory/api"
	"refectory/pen"
	"refectory/value"
)

func (w *writer) document(d api.Doc) {
	pen.Several(w.Pen, w.operation, " ", d.Ops...)
	if len(d.Ops) > 0 && len(d.Frags) > 0 {
		w.Write(" ")
	}
	pen.Several(w.Pen, w.fragment, " ", d.Frags...)
}

func (w *writer) operation(o api.Op) {
	if o.Mutation {
		w.Write("mutation")
	} else {
		w.Write("query")
	}
	if o.Name != "" {
		w.Write(" ", o.Name)
	}
	pen.InBrackets(w.Pen, w.variable, o.Vars...)
	w.directives(o.Dirs)
	w.set(o.Sels)
}

func (w *writer) variable(v api.VarDef) {
	w.Write("$", v.Name, ":", value.TypeText(v.Type))
	w.Default(v.Default)
}

func (w *writer) fragment(f api.Frag) {
	w.Write("fragment ", f.Name, " on ", f.On)
	w.directives(f.Dirs)
	w.set(f.Sels)
}

func (w *writer) directives(dirs []api.Dir) {
	pen.Several(w.Pen, w.directive, "", dirs...)
}

func (w *writer) directive(d api.Dir) {
	w.Write("@", d.Name)
	w.arguments(d.Args)
}

func (w *writer) arguments(args []api.Arg) {
	pen.InBrackets(w.Pen, w.argument, args...)
}

func (w *writer) argument(a api.Arg) {
	w.Write(a.Name, ":")
	w.Value(a.Value)
}

func (w *writer) set(sels []api.Sel) {
	if w.sets == deepest {
		w.Fill()
		return
	}
	w.sets++
	pen.InBraces(w.Pen, w.selection, sels...)
	w.sets--
}

// selection writes nothing for what is none of the three.
func (w *writer) selection(s api.Sel) {
	switch s.Kind {
	case api.Field:
		w.field(s)
	case api.Spread:
		w.Write("...", s.Name)
		w.directives(s.Dirs)
	case api.Inline:
		w.inline(s)
	}
}

func (w *writer) field(s api.Sel) {
	if s.Alias != "" {
		w.Write(s.Alias, ":")
	}
	w.Write(s.Name)
	w.arguments(s.Args)
	w.directives(s.Dirs)
	if len(s.Sels) > 0 {
		w.set(s.Sels)
	}
}

func (w *writer) inline(s api.Sel) {
	w.Write("...")
	if s.On != "" {
		w.Write("on ", s.On)
	}
	w.directives(s.Dirs)
	w.set(s.Sels)
}
