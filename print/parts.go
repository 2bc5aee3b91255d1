package print

import (
	"refectory/api"
	"refectory/value"
)

func (w *writer) document(d api.Doc) {
	several(w, w.operation, " ", d.Ops...)
	if len(d.Ops) > 0 && len(d.Frags) > 0 {
		w.write(" ")
	}
	several(w, w.fragment, " ", d.Frags...)
}

func (w *writer) operation(o api.Op) {
	if o.Mutation {
		w.write("mutation")
	} else {
		w.write("query")
	}
	if o.Name != "" {
		w.write(" ", o.Name)
	}
	inBrackets(w, w.variable, o.Vars...)
	w.directives(o.Dirs)
	w.set(o.Sels)
}

func (w *writer) variable(v api.VarDef) {
	w.write("$", v.Name, ":", value.TypeText(v.Type))
	if v.Default.Kind != 0 {
		w.write("=")
		w.value(v.Default)
	}
}

func (w *writer) fragment(f api.Frag) {
	w.write("fragment ", f.Name, " on ", f.On)
	w.directives(f.Dirs)
	w.set(f.Sels)
}

func (w *writer) directives(dirs []api.Dir) {
	several(w, w.directive, "", dirs...)
}

func (w *writer) directive(d api.Dir) {
	w.write("@", d.Name)
	w.arguments(d.Args)
}

func (w *writer) arguments(args []api.Arg) {
	inBrackets(w, w.argument, args...)
}

func (w *writer) argument(a api.Arg) {
	w.write(a.Name, ":")
	w.value(a.Value)
}

func (w *writer) set(sels []api.Sel) {
	if w.sets == deepest {
		w.full = true
		return
	}
	w.sets++
	w.write("{")
	several(w, w.selection, " ", sels...)
	w.write("}")
	w.sets--
}

// selection writes nothing for what is none of the three.
func (w *writer) selection(s api.Sel) {
	switch s.Kind {
	case api.Field:
		w.field(s)
	case api.Spread:
		w.write("...", s.Name)
		w.directives(s.Dirs)
	case api.Inline:
		w.inline(s)
	}
}

func (w *writer) field(s api.Sel) {
	if s.Alias != "" {
		w.write(s.Alias, ":")
	}
	w.write(s.Name)
	w.arguments(s.Args)
	w.directives(s.Dirs)
	if len(s.Sels) > 0 {
		w.set(s.Sels)
	}
}

func (w *writer) inline(s api.Sel) {
	w.write("...")
	if s.On != "" {
		w.write("on ", s.On)
	}
	w.directives(s.Dirs)
	w.set(s.Sels)
}
