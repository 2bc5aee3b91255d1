package doc_test

import (
	"math/rand"
	"reflect"
	"slices"
	"strings"
	"testing"

	"refectory/api"
	"refectory/doc"
	"refectory/lex"
)

// grammar is the chapter's: of each name the rows of parts that it may stand for.
// 'x is that sign or word; NAME, OTHER (a name that is not on), PLAIN are tokens;
// <x and >x stand where something begins and ends.
var grammar = map[string]string{
	"document":          "definition more",
	"more":              "| definition more",
	"definition":        "set | 'query head set | 'mutation head set | 'fragment OTHER 'on NAME directives set",
	"head":              "name variables directives",
	"name":              "| NAME",
	"variables":         "| '( variable rest-of-variables ')",
	"variable":          "'$ NAME ': <type type >type default",
	"rest-of-variables": "| variable rest-of-variables",
	"type":              "NAME bang | '[ <list type '] >list bang",
	"bang":              "| '!",
	"default":           "| '= constant",
	"constant":          "PLAIN | <value '[ constants '] >value | <value '{ named-constants '} >value",
	"constants":         "| constant constants",
	"named-constants":   "| NAME ': constant named-constants",
	"directives":        "| '@ NAME arguments directives",
	"arguments":         "| '( argument rest-of-arguments ')",
	"argument":          "NAME ': value",
	"rest-of-arguments": "| argument rest-of-arguments",
	"value":             "PLAIN | '$ NAME | <value '[ values '] >value | <value '{ named-values '} >value",
	"values":            "| value values",
	"named-values":      "| argument named-values",
	"set":               "<set '{ selection selections '} >set",
	"selections":        "| selection selections",
	"selection":         "NAME alias arguments directives perhaps-set | '... OTHER directives | '... on directives set",
	"alias":             "| ': NAME",
	"on":                "| 'on NAME",
	"perhaps-set":       "| set",
}

// rows is grammar, cut.
var rows = map[string][][]string{}

func init() {
	for name, rule := range grammar {
		for _, row := range strings.Split(rule, "|") {
			rows[name] = append(rows[name], strings.Fields(row))
		}
	}
}

// parts are those that must still come; nil: none.
type parts struct {
	first string
	rest  *parts
}

func ahead(row []string, rest *parts) *parts {
	for _, part := range slices.Backward(row) {
		rest = &parts{part, rest}
	}
	return rest
}

// state is one of the ways to go on: what must still come, and what is open.
type state struct {
	come                *parts
	sets, values, lists int
	typeAt              int // where the type began; -1: in none
}

// heads are the states that s stands for, each with a token as its first part, or with none.
func heads(s state, at int) []state {
	if s.come == nil || rows[s.come.first] == nil && !strings.ContainsAny(s.come.first, "<>") {
		return []state{s}
	}
	part := s.come.first
	s.come = s.come.rest
	switch part {
	case "<set":
		s.sets++
	case ">set":
		s.sets--
	case "<value":
		s.values++
	case ">value":
		s.values--
	case "<list":
		s.lists++
	case ">list":
		s.lists--
	case "<type":
		s.typeAt = at
	case ">type":
		s.typeAt = -1
	default:
		var all []state
		rest := s.come
		for _, row := range rows[part] {
			s.come = ahead(row, rest)
			all = append(all, heads(s, at)...)
		}
		return all
	}
	return heads(s, at)
}

func matches(part string, token lex.Token) bool {
	switch part {
	case "NAME":
		return token.Kind == lex.Name
	case "OTHER":
		return token.Kind == lex.Name && token.S != "on"
	case "PLAIN":
		return token.Kind != lex.Sign
	}
	return (token.Kind == lex.Sign || token.Kind == lex.Name) && part == "'"+token.S
}

// expected goes all ways through the grammar at once; open: more behind it could turn the answer.
func expected(s string) (at int, errno api.Errno, open bool) {
	l, at, errno := lex.All(s)
	switch {
	case len(s) > api.MaxText:
		return 0, api.ErrBig, false
	case errno != api.OK:
		return at, errno, false
	case len(l) > api.MaxNodes:
		return 0, api.ErrBig, false
	}
	ways := heads(state{come: ahead([]string{"document"}, nil), typeAt: -1}, 0)
	for i, token := range l {
		next, deep := step(ways, token, i)
		switch {
		case deep:
			return token.At, api.ErrDeep, false
		case len(next) == 0:
			return l[wrongOf(ways, i)].At, api.ErrText, false
		}
		ways = next
	}
	for _, way := range ways {
		if way.come == nil {
			return 0, api.OK, true
		}
	}
	if wrong := wrongOf(ways, len(l)); wrong < len(l) {
		return l[wrong].At, api.ErrText, true
	}
	return len(s), api.ErrText, true
}

// step is the ways that go on behind a token; deep: it would be what is too deep.
func step(ways []state, token lex.Token, at int) (next []state, deep bool) {
	for _, way := range ways {
		if way.come == nil || !matches(way.come.first, token) {
			continue
		}
		switch {
		case way.sets > api.MaxDeep || way.values > api.MaxDeep:
			deep = true
		case way.lists <= api.MaxDeep:
			way.come = way.come.rest
			next = append(next, heads(way, at+1)...)
		}
	}
	return next, deep
}

// wrongOf is the beginning of the type, if there's no way out of it.
func wrongOf(ways []state, at int) int {
	for _, way := range ways {
		if way.typeAt < 0 {
			return at
		}
	}
	return ways[0].typeAt
}

// plain is a text's tokens with a blank between: the word query where it was left out, fragments behind operations.
func plain(s string) string {
	l, _, _ := lex.All(s)
	var ops, frags, now []string
	braces, rounds := 0, 0
	for _, token := range l {
		if len(now) == 0 && token.S == "{" {
			now = append(now, "query")
		}
		now = append(now, written(token))
		if token.Kind != lex.Sign {
			continue
		}
		braces += strings.Count(token.S, "{") - strings.Count(token.S, "}")
		rounds += strings.Count(token.S, "(") - strings.Count(token.S, ")")
		if token.S != "}" || braces > 0 || rounds > 0 {
			continue
		}
		if now[0] == "fragment" {
			frags = append(frags, now...)
		} else {
			ops = append(ops, now...)
		}
		now = nil
	}
	return strings.Join(append(append(ops, frags...), now...), " ")
}

// holdAgainst tells whether more behind it could turn the answer.
func holdAgainst(t *testing.T, s string) bool {
	t.Helper()
	wantAt, want, open := expected(s)
	d, at, errno := doc.Parse(s)
	if at != wantAt || errno != want {
		t.Errorf("Parse(%q) is %d, %d, not %d, %d", s, at, errno, wantAt, want)
	}
	if errno != api.OK && !reflect.DeepEqual(d, api.Doc{}) {
		t.Errorf("Parse(%q) is %+v with an error", s, d)
	}
	if errno != api.OK {
		return open
	}
	if got := plain(text(d)); got != plain(s) || !doc.Check(d) {
		t.Errorf("%q, parsed, is %q; Check %v", s, got, doc.Check(d))
	}
	return open
}

const alphabet = "{ } ( ) : = $ @ ... [ ] ! a on query fragment 1"

// P6.1, P6.2, P6.4: all short rows of tokens, by themselves and behind others.
func TestEachShortRow(t *testing.T) {
	words := strings.Fields(alphabet)
	var grow func(s string, left int)
	grow = func(s string, left int) {
		if !holdAgainst(t, s) || left == 0 {
			return
		}
		for _, word := range words {
			grow(s+" "+word, left-1)
		}
	}
	for front, left := range map[string]int{
		"": 6, "{a}": 4, "{ ... on": 4, "{ a ( a :": 4, "{ a @ a": 4, "query ( $ a :": 4, "query ( $ a : a =": 4, "mutation a @ a (": 4, "fragment a on": 4,
		strings.Repeat("{ a ", 11): 3, "{ a ( a : " + strings.Repeat("[", 11): 3, "query ( $ a : " + strings.Repeat("[", 11): 3,
	} {
		grow(front, left)
	}
}

// P6.1, P6.2: a rich document, broken off, and with one token or two turned.
func TestTurnedTokens(t *testing.T) {
	words := append(strings.Fields(alphabet), "mutation", `"s"`, "1.5", "null", "|", "&")
	l := strings.Fields(plain(rich))
	rest := func(i int) string { return " " + strings.Join(l[i:], " ") }
	for i := range len(l) + 1 {
		front := strings.Join(l[:i], " ")
		holdAgainst(t, front)
		for _, word := range words {
			holdAgainst(t, front+" "+word+rest(i))
			if i < len(l) {
				holdAgainst(t, front+" "+word+rest(i+1))
			}
		}
		if i < len(l) {
			holdAgainst(t, front+rest(i+1))
		}
	}
	chance := rand.New(rand.NewSource(6))
	for range 10000 {
		turned := append([]string{}, l...)
		for range 2 {
			turned[chance.Intn(len(turned))] = words[chance.Intn(len(words))]
		}
		holdAgainst(t, strings.Join(turned, " "))
	}
}

// grown is a text that the grammar makes of a part; with fewer left the shorter rows.
func grown(chance *rand.Rand, part string, left int) string {
	switch {
	case part == "NAME" || part == "OTHER":
		return " " + strings.Fields("a b query mutation fragment true null T")[chance.Intn(8)]
	case part == "PLAIN":
		return " " + strings.Fields(`1 -2.5e3 "s" true null on RED """b"""`)[chance.Intn(8)]
	case part[0] == '\'':
		return " " + part[1:]
	case rows[part] == nil:
		return ""
	}
	row := rows[part][0]
	if left > 0 {
		row = rows[part][chance.Intn(len(rows[part]))]
	}
	all := ""
	for _, part := range row {
		all += grown(chance, part, left-1)
	}
	return all
}

// P6.1, P6.4: what the grammar makes is read.
func TestGrownDocuments(t *testing.T) {
	chance := rand.New(rand.NewSource(1))
	read := 0
	for i := range 4000 {
		s := grown(chance, "document", i%30)
		holdAgainst(t, s)
		if _, _, errno := doc.Parse(s); errno == api.OK {
			read++
		}
	}
	if read < 3000 {
		t.Errorf("only %d were read", read)
	}
}

// R1: no text makes a call panic, and each is told as the grammar tells it.
func FuzzParse(f *testing.F) {
	for _, s := range []string{"", rich, "{a}", "query($a:[A=1){a}", strings.Repeat("{a", 13), "{a(x:" + strings.Repeat("[", 13), "{...on}", "fragment on on T{a}", "{a ?}"} {
		f.Add(s)
	}
	f.Fuzz(func(t *testing.T, s string) { holdAgainst(t, s) })
}
