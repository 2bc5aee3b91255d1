package jread

import (
	"strings"

	"refectory/api"
	"refectory/jval"
	"refectory/runes"
)

// reader goes through a text once.
//
// A text that is none ends it on the spot. The other errors only count if the
// whole is JSON, so that they are kept in mind until the end.
type reader struct {
	text  string
	at    int
	deep  bool // something stood deeper than MaxDeep
	twice bool // an object had a name twice
}

// whole is the one value that the text has.
func (r *reader) whole() api.Value {
	v := r.value(1)
	r.skipBlanks()
	switch {
	case r.at < len(r.text):
		fail(api.ErrText)
	case r.deep:
		fail(api.ErrDeep)
	case r.twice:
		fail(api.ErrTwice)
	}
	return v
}

// value is the one that begins at the next sign; one of no parts is 1 deep.
func (r *reader) value(depth int) api.Value {
	if depth > api.MaxDeep {
		r.deep = true
	}
	switch r.next() {
	case '[':
		return r.list(depth)
	case '{':
		return r.object(depth)
	case '"':
		return api.Value{Kind: api.Str, S: r.quoted()}
	case 'n':
		r.mustWord("null")
		return api.Value{Kind: api.Null}
	case 't':
		return r.truth("true")
	case 'f':
		return r.truth("false")
	}
	return r.number()
}

func (r *reader) list(depth int) api.Value {
	v := api.Value{Kind: api.List}
	r.must('[')
	if r.take(']') {
		return v
	}
	for {
		v.List = append(v.List, r.value(depth+1))
		if r.take(']') {
			return v
		}
		r.must(',')
	}
}

func (r *reader) object(depth int) api.Value {
	v := api.Value{Kind: api.Obj}
	r.must('{')
	if r.take('}') {
		return v
	}
	seen := map[string]struct{}{}
	for {
		name := r.name(seen)
		r.must(':')
		v.Names = append(v.Names, name)
		v.List = append(v.List, r.value(depth+1))
		if r.take('}') {
			return v
		}
		r.must(',')
	}
}

// name reads one more name of the object that has had those seen.
func (r *reader) name(seen map[string]struct{}) string {
	if r.next() != '"' {
		fail(api.ErrText)
	}
	name := r.quoted()
	if _, twice := seen[name]; twice {
		r.twice = true
	}
	seen[name] = struct{}{}
	return name
}

// quoted only looks for the end: what may stand between the quotes is Unquote's to tell.
func (r *reader) quoted() string {
	end := r.at + 1
	for end < len(r.text) && r.text[end] != '"' {
		if r.text[end] == '\\' {
			end++
		}
		end++
	}
	if end >= len(r.text) {
		fail(api.ErrText)
	}
	s, ok := runes.Unquote(r.text[r.at : end+1])
	if !ok {
		fail(api.ErrText)
	}
	r.at = end + 1
	return s
}

func (r *reader) truth(word string) api.Value {
	r.mustWord(word)
	return api.Value{Kind: api.Bool, S: word}
}

// number takes every sign that a number may have: none of them may stand right behind one.
func (r *reader) number() api.Value {
	rest := strings.TrimLeft(r.text[r.at:], "+-.0123456789eE")
	end := len(r.text) - len(rest)
	s := strings.Clone(r.text[r.at:end])
	whole, ok := jval.Number(s)
	if !ok {
		fail(api.ErrText)
	}
	r.at = end
	if whole {
		return api.Value{Kind: api.Int, S: s}
	}
	return api.Value{Kind: api.Dec, S: s}
}

func (r *reader) skipBlanks() {
	for r.at < len(r.text) && isBlank(r.text[r.at]) {
		r.at++
	}
}

func isBlank(c byte) bool {
	return c == 32 || c == 9 || c == 10 || c == 13
}

// next is the sign behind the blanks; 0, which no value has outside of quotes, at the end.
func (r *reader) next() byte {
	r.skipBlanks()
	if r.at == len(r.text) {
		return 0
	}
	return r.text[r.at]
}

// take goes behind the next sign, if it is that one.
func (r *reader) take(sign byte) bool {
	if r.next() != sign {
		return false
	}
	r.at++
	return true
}

func (r *reader) must(sign byte) {
	if !r.take(sign) {
		fail(api.ErrText)
	}
}

func (r *reader) mustWord(word string) {
	if !strings.HasPrefix(r.text[r.at:], word) {
		fail(api.ErrText)
	}
	r.at += len(word)
}
