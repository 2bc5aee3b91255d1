package doc

import (
	"refectory/api"
	"refectory/cursor"
)

func (p *parser) document() api.Doc {
	var d api.Doc
	p.define(&d)
	for p.Left() > 0 {
		p.define(&d)
	}
	return d
}

func (p *parser) define(d *api.Doc) {
	if p.TakeWord("fragment") {
		d.Frags = append(d.Frags, p.fragment())
		return
	}
	d.Ops = append(d.Ops, p.operation())
}

func (p *parser) operation() api.Op {
	var o api.Op
	if !p.IsSign("{") {
		o = p.head()
	}
	o.Sels = p.set()
	return o
}

// head is an operation without its set.
func (p *parser) head() api.Op {
	o := api.Op{Mutation: p.TakeWord("mutation")}
	if !o.Mutation {
		p.Word("query")
	}
	o.Name = p.NameOrNone()
	o.Vars = cursor.SeveralOrNone(p.Cursor, "(", p.variable, ")")
	o.Dirs = p.directives()
	return o
}

func (p *parser) variable() api.VarDef {
	var v api.VarDef
	p.Sign("$")
	v.Name = p.Name()
	p.Sign(":")
	v.Type = p.Type()
	v.Default = p.Default()
	return v
}

// fragment stands behind the word.
func (p *parser) fragment() api.Frag {
	var f api.Frag
	f.Name = p.fragmentName()
	p.Word("on")
	f.On = p.Name()
	f.Dirs = p.directives()
	f.Sels = p.set()
	return f
}

func (p *parser) fragmentName() string {
	if p.NextName() == "on" {
		p.Fail(api.ErrText)
	}
	return p.Name()
}

func (p *parser) directives() []api.Dir {
	var dirs []api.Dir
	for p.TakeSign("@") {
		dirs = append(dirs, p.directive())
	}
	return dirs
}

// directive stands behind the sign.
func (p *parser) directive() api.Dir {
	var d api.Dir
	d.Name = p.Name()
	d.Args = p.arguments()
	return d
}

func (p *parser) arguments() []api.Arg {
	return cursor.SeveralOrNone(p.Cursor, "(", p.argument, ")")
}

func (p *parser) argument() api.Arg {
	var a api.Arg
	a.Name = p.Name()
	p.Sign(":")
	a.Value = p.Value()
	return a
}
