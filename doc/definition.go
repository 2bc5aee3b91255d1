package doc

import "refectory/api"

func (p *parser) document() api.Doc {
	var d api.Doc
	p.define(&d)
	for p.at < len(p.tokens) {
		p.define(&d)
	}
	return d
}

func (p *parser) define(d *api.Doc) {
	if p.takeWord("fragment") {
		d.Frags = append(d.Frags, p.fragment())
		return
	}
	d.Ops = append(d.Ops, p.operation())
}

func (p *parser) operation() api.Op {
	var o api.Op
	if !p.isSign("{") {
		o = p.head()
	}
	o.Sels = p.set()
	return o
}

// head is an operation without its set.
func (p *parser) head() api.Op {
	o := api.Op{Mutation: p.takeWord("mutation")}
	if !o.Mutation {
		p.word("query")
	}
	o.Name = p.nameOrNone()
	o.Vars = severalOrNone(p, "(", p.variable, ")")
	o.Dirs = p.directives()
	return o
}

func (p *parser) variable() api.VarDef {
	var v api.VarDef
	p.sign("$")
	v.Name = p.name()
	p.sign(":")
	v.Type = p.typeOf()
	if p.takeSign("=") {
		v.Default = p.constant()
	}
	return v
}

// fragment stands behind the word.
func (p *parser) fragment() api.Frag {
	var f api.Frag
	f.Name = p.fragmentName()
	p.word("on")
	f.On = p.name()
	f.Dirs = p.directives()
	f.Sels = p.set()
	return f
}

func (p *parser) fragmentName() string {
	if p.isWord("on") {
		p.fail(api.ErrText)
	}
	return p.name()
}

func (p *parser) directives() []api.Dir {
	var dirs []api.Dir
	for p.takeSign("@") {
		dirs = append(dirs, p.directive())
	}
	return dirs
}

// directive stands behind the sign.
func (p *parser) directive() api.Dir {
	var d api.Dir
	d.Name = p.name()
	d.Args = p.arguments()
	return d
}

func (p *parser) arguments() []api.Arg {
	return severalOrNone(p, "(", p.argument, ")")
}

func (p *parser) argument() api.Arg {
	var a api.Arg
	a.Name = p.name()
	p.sign(":")
	a.Value = p.value()
	return a
}
