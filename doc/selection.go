package doc

import (
	"refectory/api"
	"refectory/cursor"
)

// set tells of its sign alone that it is too deep: what stands in it does not count any more.
func (p *parser) set() []api.Sel {
	if p.sets == api.MaxDeep && p.IsSign("{") {
		p.Fail(api.ErrDeep)
	}
	p.sets++
	sels := cursor.Several(p.Cursor, "{", p.selection, "}")
	p.sets--
	return sels
}

func (p *parser) selection() api.Sel {
	switch {
	case !p.TakeSign("..."):
		return p.field()
	case p.NextName() != "" && p.NextName() != "on":
		return p.spread()
	}
	return p.inline()
}

// field takes its first name for the alias only when it sees another one behind it.
func (p *parser) field() api.Sel {
	s := api.Sel{Kind: api.Field, Name: p.Name()}
	if p.TakeSign(":") {
		s.Alias = s.Name
		s.Name = p.Name()
	}
	s.Args = p.arguments()
	s.Dirs = p.directives()
	if p.IsSign("{") {
		s.Sels = p.set()
	}
	return s
}

// spread stands behind the dots, as inline does.
func (p *parser) spread() api.Sel {
	s := api.Sel{Kind: api.Spread, Name: p.Name()}
	s.Dirs = p.directives()
	return s
}

func (p *parser) inline() api.Sel {
	s := api.Sel{Kind: api.Inline}
	if p.TakeWord("on") {
		s.On = p.Name()
	}
	s.Dirs = p.directives()
	s.Sels = p.set()
	return s
}
