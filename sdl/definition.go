package sdl

import (
	"refectory/api"
	"refectory/cursor"
)

func (p *parser) scalar() {
	p.add(api.TypeDef{Kind: api.Scalar, Name: p.Name()})
}

func (p *parser) object() {
	t := api.TypeDef{Kind: api.Object, Name: p.Name()}
	if p.TakeWord("implements") {
		t.Names = p.names("&")
	}
	t.Fields = cursor.Several(p.Cursor, "{", p.field, "}")
	p.add(t)
}

func (p *parser) face() {
	t := api.TypeDef{Kind: api.Face, Name: p.Name()}
	t.Fields = cursor.Several(p.Cursor, "{", p.field, "}")
	p.add(t)
}

func (p *parser) union() {
	t := api.TypeDef{Kind: api.Union, Name: p.Name()}
	p.Sign("=")
	t.Names = p.names("|")
	p.add(t)
}

func (p *parser) enums() {
	t := api.TypeDef{Kind: api.Enums, Name: p.Name()}
	t.Names = cursor.Several(p.Cursor, "{", p.described, "}")
	p.add(t)
}

func (p *parser) inputs() {
	t := api.TypeDef{Kind: api.Inputs, Name: p.Name()}
	t.Inputs = cursor.Several(p.Cursor, "{", p.input, "}")
	p.add(t)
}

func (p *parser) add(t api.TypeDef) {
	p.schema.Types = append(p.schema.Types, t)
}

// names is one or more names, with a sign between two.
func (p *parser) names(between string) []string {
	names := []string{p.Name()}
	for p.TakeSign(between) {
		names = append(names, p.Name())
	}
	return names
}

// described is a name that a text may stand ahead of.
func (p *parser) described() string {
	p.TakeText()
	return p.Name()
}

func (p *parser) field() api.FieldDef {
	f := api.FieldDef{Name: p.described()}
	f.Args = cursor.SeveralOrNone(p.Cursor, "(", p.input, ")")
	p.Sign(":")
	f.Type = p.Type()
	f.Cost = p.cost()
	return f
}

func (p *parser) input() api.Input {
	i := api.Input{Name: p.described()}
	p.Sign(":")
	i.Type = p.Type()
	i.Default = p.Default()
	return i
}
