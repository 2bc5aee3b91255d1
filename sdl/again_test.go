package sdl_test

import (
	"math/rand"
	"reflect"
	"slices"
	"strings"
	"testing"

	"refectory/api"
	"refectory/lex"
	"refectory/sdl"
	"refectory/value"
)

// grammar is the chapter's: of each name the rows of parts that it may stand for, the
// empty one first. 'x is that sign or word; STR, NAME, INT are tokens, NEW is the name of
// a type; TYPE and VALUE are layer 5's; + says nothing, but writes a blank.
var grammar = map[string]string{
	"text":       "/ about definition text",
	"about":      "/ STR",
	"definition": "'schema '{ 'query ': NAME mutation '} / 'scalar NEW / 'type NEW implements fields / 'interface NEW fields / 'union NEW '= NAME or / 'enum NEW '{ about NAME values '} / 'input NEW '{ input inputs '}",
	"mutation":   "/ 'mutation ': NAME",
	"implements": "/ 'implements NAME and",
	"and":        "/ '& NAME and",
	"or":         "/ '| NAME or",
	"values":     "/ + about NAME values",
	"fields":     "'{ field more '}",
	"more":       "/ + field more",
	"field":      "about NAME arguments ': TYPE cost",
	"arguments":  "/ '( input inputs ')",
	"input":      "about NAME ': TYPE default",
	"inputs":     "/ + input inputs",
	"default":    "/ '= VALUE",
	"cost":       "/ '@ 'cost '( 'n ': INT ')",
}

// rows is grammar, cut.
var rows = map[string][][]string{}

func init() {
	for name, rule := range grammar {
		for _, row := range strings.Split(rule, "/") {
			rows[name] = append(rows[name], strings.Fields(row))
		}
	}
}

// stack reads by the parts that must still come, the next one last. It writes, too, what Text asks for.
type stack struct {
	come     []string
	tokens   []lex.Token
	at       int
	roots    string
	types    string
	mutation bool
}

func (k *stack) token() lex.Token {
	if k.at < len(k.tokens) {
		return k.tokens[k.at]
	}
	return lex.Token{}
}

func (k *stack) matches(part string) bool {
	token := k.token()
	switch part {
	case "STR":
		return token.Kind == lex.Str
	case "NAME", "NEW":
		return token.Kind == lex.Name
	case "INT":
		return token.Kind == lex.Int
	case "'schema":
		return token.Kind == lex.Name && token.S == "schema" && k.roots == ""
	}
	return (token.Kind == lex.Sign || token.Kind == lex.Name) && part == "'"+token.S
}

// begins tells whether the next token may be the first one of a row; of a row that may be empty: whether it is.
func (k *stack) begins(row []string) bool {
	for _, part := range row {
		if part == "+" {
			continue
		}
		if rows[part] == nil {
			return k.matches(part)
		}
		if slices.ContainsFunc(rows[part], k.begins) {
			return true
		}
		if len(rows[part][0]) > 0 {
			return false
		}
	}
	return false
}

// write sets names and numbers apart.
func (k *stack) write(s string) {
	all := &k.types
	if strings.HasPrefix(k.roots, "schema") && !strings.HasSuffix(k.roots, "}") {
		all = &k.roots
	}
	isWord := func(s string) bool { return strings.Trim(s, "!$&():=@[]{|} ") == s }
	if *all != "" && isWord((*all)[len(*all)-1:]) && isWord(s[:1]) {
		*all += " "
	}
	*all += s
}

// step takes a part; an error is at the token where it stands.
func (k *stack) step(part string) api.Errno {
	switch {
	case part == "+":
		k.write(" ")
		return api.OK
	case part == "TYPE":
		y, next, ok := value.Type(k.tokens, k.at)
		if !ok {
			return api.ErrText
		}
		k.at = next
		k.write(value.TypeText(y))
		return api.OK
	case part == "VALUE":
		return k.value()
	case rows[part] != nil:
		return k.choose(part)
	case !k.matches(part):
		return api.ErrText
	}
	s := k.token().S
	k.at++
	if part == "INT" {
		s = clipped(s)
	}
	if part == "NEW" && s == "Mutation" {
		k.mutation = true
	}
	switch {
	case part == "'schema":
		k.roots = s
	case part != "STR":
		k.write(s)
	}
	return api.OK
}

// value finds the first sign of a variable among what was read, if there is one.
func (k *stack) value() api.Errno {
	v, next, errno := value.Value(k.tokens, k.at)
	for i := k.at; i < len(k.tokens) && i <= next; i++ {
		if k.tokens[i].Kind == lex.Sign && k.tokens[i].S == "$" && (i < next || errno != api.OK) {
			k.at = i
			return api.ErrText
		}
	}
	k.at = next
	if errno == api.OK {
		k.write(value.Text(v))
	}
	return errno
}

func (k *stack) choose(part string) api.Errno {
	for _, row := range rows[part] {
		if k.begins(row) || len(rows[part]) == 1 {
			for _, part := range slices.Backward(row) {
				k.come = append(k.come, part)
			}
			if part == "definition" && k.token().S != "schema" {
				k.types += " "
			}
			return api.OK
		}
	}
	if len(rows[part][0]) > 0 {
		return api.ErrText
	}
	if part == "cost" {
		k.write("@cost(n:1)")
	}
	return api.OK
}

func clipped(n string) string {
	digits := strings.TrimPrefix(n, "-")
	if len(digits) > 6 {
		n = strings.TrimSuffix(n, digits) + "1000000"
	}
	if n == "-0" {
		return "0"
	}
	return n
}

// expected is a text's place and error, and what Text says of its schema; open: more behind it could turn the answer.
func expected(s string) (text string, at int, errno api.Errno, open bool) {
	l, at, errno := lex.All(s)
	if errno != api.OK {
		return "", at, errno, false
	}
	k := &stack{come: []string{"text"}, tokens: l}
	for len(k.come) > 0 && errno == api.OK {
		part := k.come[len(k.come)-1]
		k.come = k.come[:len(k.come)-1]
		errno = k.step(part)
		open = part == "TYPE"
	}
	if errno == api.OK && k.at < len(l) {
		errno = api.ErrText
	}
	if errno == api.OK {
		return k.text(), 0, api.OK, true
	}
	if k.at < len(l) {
		return "", l[k.at].At, errno, open
	}
	return "", len(s), errno, true
}

func (k *stack) text() string {
	switch {
	case k.roots != "":
		return k.roots + k.types
	case k.mutation:
		return "schema{query:Query mutation:Mutation}" + k.types
	}
	return "schema{query:Query}" + k.types
}

// holdAgainst tells whether more behind it could turn the answer.
func holdAgainst(t *testing.T, s string) bool {
	t.Helper()
	want, wantAt, wantErrno, open := expected(s)
	x, at, errno := sdl.Parse(s)
	if at != wantAt || errno != wantErrno || errno != api.OK && !reflect.DeepEqual(x, api.Schema{}) {
		t.Errorf("Parse(%q) is %+v, %d, %d, not %d, %d", s, x, at, errno, wantAt, wantErrno)
	}
	if errno != api.OK {
		return open
	}
	if len(want) > api.MaxSchema {
		want = ""
	}
	got := sdl.Text(x)
	if got != want {
		t.Errorf("%q, parsed, is %q, not %q", s, got, want)
	}
	if back, _, errno := sdl.Parse(got); got != "" && (errno != api.OK || !exact(back, x)) {
		t.Errorf("%q is parsed as %+v, %q as %+v", s, x, got, back)
	}
	return open
}

const alphabet = `{ } ( ) : = | & @ ! [ ] $ a 1 "s" schema query mutation scalar type implements interface union enum input cost n`

// P8.1, P8.2, P8.4: all short rows of tokens, by themselves and behind others.
func TestEachShortRow(t *testing.T) {
	words := strings.Fields(alphabet)
	var grow func(s string, left int)
	grow = func(s string, left int) {
		if !holdAgainst(t, s) || left == 0 {
			return
		}
		for _, word := range words {
			grow(s+" "+word, left-1)
		}
	}
	for front, left := range map[string]int{
		"": 4, "scalar a": 3, "schema {": 4, "schema { query : a": 4, "schema { query : a }": 3, "type": 3, "type a {": 4, "type a implements a": 3, "type a { a": 3, "type a { a (": 4, "type a { a ( a : a": 3, "type a { a ( a : a )": 3, "type a { a :": 3, "type a { a : a": 3, "type a { a : a @": 3, "type a { a : a @ cost (": 5, "interface a": 4, "union a =": 3, "enum a {": 3, "input a {": 4, "input a { a : a =": 3, "input a { a : a = [": 3,
		"input a { a : " + strings.Repeat("[", 11): 3, "input a { a : a = " + strings.Repeat("[", 11): 3,
	} {
		grow(front, left)
	}
}

// spread is a text's tokens with a blank between.
func spread(s string) []string {
	tokens, _, _ := lex.All(s)
	var l []string
	for _, token := range tokens {
		l = append(l, written(token))
	}
	return l
}

// P8.1, P8.2: a rich schema, broken off, and with one token or two turned.
func TestTurnedTokens(t *testing.T) {
	words := append(strings.Fields(alphabet), `""`, "1.5", "null", "...", "-7", "Mutation")
	l := spread(rich)
	rest := func(i int) string { return " " + strings.Join(l[i:], " ") }
	for i := range len(l) + 1 {
		front := strings.Join(l[:i], " ")
		holdAgainst(t, front)
		for _, word := range words {
			holdAgainst(t, front+" "+word+rest(i))
			if i < len(l) {
				holdAgainst(t, front+" "+word+rest(i+1))
			}
		}
		if i < len(l) {
			holdAgainst(t, front+rest(i+1))
		}
	}
	chance := rand.New(rand.NewSource(6))
	for range 10000 {
		turned := append([]string{}, l...)
		for range 2 {
			turned[chance.Intn(len(turned))] = words[chance.Intn(len(words))]
		}
		holdAgainst(t, strings.Join(turned, " "))
	}
}

// grown is a text that the grammar makes of a part; with fewer left the shorter rows.
func grown(chance *rand.Rand, part string, left int) string {
	words := map[string]string{"NAME": "a b type schema implements Mutation true", "NEW": "A Query Mutation union", "INT": "0 -0 1 50 -7 999999 1000000 -12345678", "STR": `"s" "" """b"""`, "TYPE": "A A! [A] [A!]! [[schema]]", "VALUE": `1 -2.5e3 "s" true null RED [] {} [1,2] {a:1,b:[{}]} """b"""`, "+": ","}[part]
	switch {
	case words != "":
		l := strings.Fields(words)
		return " " + l[chance.Intn(len(l))]
	case part[0] == '\'':
		return " " + part[1:]
	}
	row := rows[part][0]
	if left > 0 || len(row) > 0 {
		row = rows[part][chance.Intn(len(rows[part]))]
	}
	all := ""
	for _, part := range row {
		all += grown(chance, part, left-1)
	}
	return all
}

// P8.1, P8.4: what the grammar makes is read.
func TestGrownSchemas(t *testing.T) {
	chance := rand.New(rand.NewSource(1))
	read := 0
	for i := range 6000 {
		s := grown(chance, "text", i%40)
		holdAgainst(t, s)
		if _, _, errno := sdl.Parse(s); errno == api.OK {
			read++
		}
	}
	if read < 4000 {
		t.Errorf("only %d were read", read)
	}
}

// R1: no text makes a call panic, and each is told as the grammar tells it.
func FuzzParse(f *testing.F) {
	for _, s := range []string{"", rich, "type Query{a:Int}", "type T{a:[A=1", "input I{a:A=" + strings.Repeat("[", 13), `"x"schema{query:A}`, "union U=A|B", "enum E{A ?}", "type T{a:A@cost(n:-1234567)}", "input I{a:A=[$v]}"} {
		f.Add(s)
	}
	f.Fuzz(func(t *testing.T, s string) { holdAgainst(t, s) })
}
