package sdl

import (
	"slices"

	"refectory/api"
	"refectory/cursor"
)

// parser gathers in a schema what definitions say.
type parser struct {
	*cursor.Cursor
	schema api.Schema
	define map[string]func() // by the word that a definition begins with: what reads all behind it
}

func newParser(c *cursor.Cursor) *parser {
	p := &parser{Cursor: c}
	p.define = map[string]func(){
		"schema":    p.roots,
		"scalar":    p.scalar,
		"type":      p.object,
		"interface": p.face,
		"union":     p.union,
		"enum":      p.enums,
		"input":     p.inputs,
	}
	return p
}

func (p *parser) definitions() {
	for p.Left() > 0 {
		p.definition()
	}
	if p.schema.Query == "" {
		p.defaultRoots()
	}
}

func (p *parser) definition() {
	p.TakeText()
	word := p.NextName()
	define, ok := p.define[word]
	if !ok {
		p.Fail(api.ErrText)
		return
	}
	p.Word(word)
	define()
}

// roots may be told once: from then on their word begins no definition.
func (p *parser) roots() {
	delete(p.define, "schema")
	p.Sign("{")
	p.Word("query")
	p.Sign(":")
	p.schema.Query = p.Name()
	if p.TakeWord("mutation") {
		p.Sign(":")
		p.schema.Mutation = p.Name()
	}
	p.Sign("}")
}

func (p *parser) defaultRoots() {
	p.schema.Query = "Query"
	if slices.ContainsFunc(p.schema.Types, isMutation) {
		p.schema.Mutation = "Mutation"
	}
}

func isMutation(t api.TypeDef) bool { return t.Name == "Mutation" }
