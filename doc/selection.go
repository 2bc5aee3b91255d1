package doc

import "refectory/api"

// set tells of its sign alone that it is too deep: what stands in it does not count any more.
func (p *parser) set() []api.Sel {
	if p.sets == api.MaxDeep && p.isSign("{") {
		p.fail(api.ErrDeep)
	}
	p.sets++
	sels := several(p, "{", p.selection, "}")
	p.sets--
	return sels
}

func (p *parser) selection() api.Sel {
	switch {
	case !p.takeSign("..."):
		return p.field()
	case p.isName() && !p.isWord("on"):
		return p.spread()
	}
	return p.inline()
}

// field takes its first name for the alias only when it sees another one behind it.
func (p *parser) field() api.Sel {
	s := api.Sel{Kind: api.Field, Name: p.name()}
	if p.takeSign(":") {
		s.Alias = s.Name
		s.Name = p.name()
	}
	s.Args = p.arguments()
	s.Dirs = p.directives()
	if p.isSign("{") {
		s.Sels = p.set()
	}
	return s
}

// spread stands behind the dots, as inline does.
func (p *parser) spread() api.Sel {
	s := api.Sel{Kind: api.Spread, Name: p.name()}
	s.Dirs = p.directives()
	return s
}

func (p *parser) inline() api.Sel {
	s := api.Sel{Kind: api.Inline}
	if p.takeWord("on") {
		s.On = p.name()
	}
	s.Dirs = p.directives()
	s.Sels = p.set()
	return s
}
