package doc_test

import (
	"strings"
	"testing"

	"refectory/api"
	"refectory/doc"
)

// P6.2, ErrText: the token that is none, in definitions.
func TestWrongDefinitions(t *testing.T) {
	for s, at := range map[string]int{
		"": 0, " ": 1, "#{a}": 4, ", ,\n": 4, "a": 0, "on": 0, "  a{b}": 2, "}": 0, "(": 0, "@d{a}": 0, "1": 0, `"a"{b}`: 0, `"query"{b}`: 0, "...F": 0, "subscription{a}": 0, "Query{a}": 0, "queries{a}": 0,
		"{a}}": 3, "{a}b": 3, "{a}@d": 3, "{a}(": 3, "{a}query": 8, "{a} fragment": 12, "{a}...F": 3,
		"query": 5, "query ": 6, "query Q": 7, "query Q R{a}": 8, "query{}": 6, "query 1{a}": 6, `query "Q"{a}`: 6, "query $a{a}": 6, "query:{a}": 5, "query@{a}": 6, "query@d": 7, "query@d Q{a}": 8, "query@d(){a}": 8, "query@d($a:A){a}": 8, "query Q@d($a:A){a}": 10, "mutation": 8, "mutation M M{a}": 11, "mutation=": 8, "query...{a}": 5,
		"fragment": 8, "fragment F": 10, "fragment F on": 13, "fragment F on T": 15, "fragment F on T{": 16, "fragment{a}": 8, "fragment F{a}": 10, "fragment F T{a}": 11, "fragment F on{a}": 13, "fragment on T{a}": 9, "fragment on on T{a}": 9, "fragment F On T{a}": 11, `fragment F "on" T{a}`: 11, "fragment 1 on T{a}": 9, "fragment F on 1{a}": 14, "fragment F on T U{a}": 16, "fragment F on T($a:A){a}": 15, "fragment F on T!{a}": 15, "fragment F on [T]{a}": 14, "fragment F@d on T{a}": 10, "fragment F on T{}": 16, "fragment F on T@d(x:1){a": 24,
	} {
		wantErrno(t, s, at, api.ErrText)
	}
}

// P6.2, ErrText: the token that is none, in sets.
func TestWrongSets(t *testing.T) {
	for s, at := range map[string]int{
		"{": 1, "{ ": 2, "{}": 1, "{a": 2, "{a ": 3, "{1}": 1, "{$a}": 1, "{{a}}": 1, "{(x:1)}": 1, "{@d}": 1, "{:a}": 1, `{"a"}`: 1, "{]": 1, "{a]": 2, "{a)}": 2, "{a!}": 2, "{a=1}": 2, "{a 1}": 3,
		"{a:}": 3, "{a:": 3, "{a:1}": 3, "{a:b:c}": 4, "{a::b}": 3, "{a:...F}": 3, "{a:{b}}": 3, "{a:(x:1)}": 3, "{a:$b}": 3,
		"{a{}}": 3, "{a{b}{c}}": 5, "{a{b}": 5, "{a{b}@d}": 5, "{a{b}(x:1)}": 5, "{a@d(x:1)(y:1)}": 9, "{a@d{b}@e}": 7,
		"{...}": 4, "{...": 4, "{...1}": 4, "{...$a}": 4, "{......F}": 4, "{...{}}": 5, "{...{a": 6, "{...F{a}}": 5, "{...F(x:1)}": 5, "{...F:a}": 5, "{...F@}": 6, "{...@d}": 6, "{...@d F}": 7, "{...(x:1){a}}": 4,
		"{...on}": 6, "{...on": 6, "{...on{a}}": 6, "{...on 1{a}}": 7, "{...on T": 8, "{...on T}": 8, "{...on T@d}": 10, "{...on T(x:1){a}}": 8, "{...on T U{a}}": 9, "{...on@d{a}}": 6, "{...on on}": 9, "{...on T{}}": 9, "{a ...on}": 8,
	} {
		wantErrno(t, s, at, api.ErrText)
	}
}

// P6.2, ErrText: the token that is none, in arguments, directives, variables.
func TestWrongParts(t *testing.T) {
	for s, at := range map[string]int{
		"{a(": 3, "{a()}": 3, "{a(x": 4, "{a(x)}": 4, "{a(x:": 5, "{a(x:)}": 5, "{a(x:1": 6, "{a(x:1}": 6, "{a(x:1]}": 6, "{a(x:1 2)}": 7, "{a(x 1)}": 5, "{a(x=1)}": 4, "{a(1:1)}": 3, "{a($x:1)}": 3, `{a("x":1)}`: 3, "{a(x::1)}": 5, "{a(:1)}": 3, "{a(x:1)(y:1)}": 7, "{a(x:1{b})}": 6, "{a(x:1 y)}": 8, "{a(x:1=2)}": 6,
		"{a(x:$)}": 6, "{a(x:$1)}": 6, "{a(x:[)}": 6, "{a(x:[1)}": 7, "{a(x:{)}": 6, "{a(x:{b)}": 7, "{a(x:{b:)}": 8, "{a(x:{b:1)}": 9, "{a(x:[}": 6, "{a(x:!)}": 5, "{a(x:...)}": 5, "{a b:c(d:[{e:f}}": 15, "{a(x:$v!)}": 7, "{a(x:[1 $])}": 9,
		"{a@}": 3, "{a@1}": 3, "{a@@d}": 3, "{a@(x:1)}": 3, "{a@{b}}": 3, "{a@d()}": 5, "{a@d(x)}": 6, "{a@d(x:1}": 8, "{a@d:b}": 4, "{a@ d @": 7,
		"query(){a}": 6, "query(": 6, "query(a:Int){a}": 6, "query($){a}": 7, "query($1:Int){a}": 7, "query($a){a}": 8, "query($a Int){a}": 9, "query($a:": 9, "query($a:){a}": 9, "query($a:Int": 12, "query($a:Int{a}": 12, "query($a:Int]{a}": 12, "query($a:Int b:Int){a}": 13, "query($a:Int $){a}": 14, "query($a:Int@d){a}": 12, "query($a:Int:Int){a}": 12, "query($a:Int)($b:Int){a}": 13, "query($a:Int)Q{a}": 13, "query($a:Int=1=1){a}": 14, "query($a:Int=1 2){a}": 15, "query($a:Int!!){a}": 13, "query($a:[Int]]){a}": 14, "query($a:Int=1)": 15, "query($a:Int)@d": 15,
	} {
		wantErrno(t, s, at, api.ErrText)
	}
}

// P6.2: a default has no variables: the first one is the token that is none.
func TestWrongDefaults(t *testing.T) {
	for s, at := range map[string]int{
		"query($a:A=": 11, "query($a:A=){a}": 11, "query($a:A=$b){a}": 11, "query($a:A=$": 11, "query($a:A=$b": 11, "query($a:A=$1){a}": 11, "query($a:A=[$b]){a}": 12, "query($a:A=[1 $b]){a}": 14, "query($a:A=[1 $": 14, "query($a:A=[1 $}": 14, "query($a:A={b:$c}){a}": 14, "query($a:A={$b:1}){a}": 12, "query($a:A={b $c}){a}": 14, "query($a:A=[}$b]){a}": 12, "query($a:A=[1:$b]){a}": 13, "query($a:A=[[1]{c:2}$b $c": 20, "query($a:A=[1){a}": 13, "query($a:A=[1": 13, "query($a:A={b}){a}": 13, "query($a:A=1 $b){a}": 15, "query($a:A=!){a}": 11,
		"query($a:A=[$b" + strings.Repeat("[", 13): 12,
	} {
		wantErrno(t, s, at, api.ErrText)
	}
	wantErrno(t, "query($a:A="+strings.Repeat("[", 13)+"$b", 23, api.ErrDeep)
	wantErrno(t, "query($a:A="+strings.Repeat("{b:", 12)+"[$b", 47, api.ErrDeep)
	wantErrno(t, "query($a:A="+strings.Repeat("[", 12)+"$b", 23, api.ErrText)
}

// P6.2: what must be a type and is none is wrong at its first token.
func TestWrongTypes(t *testing.T) {
	const ahead = "query($a:"
	many := strings.Repeat("[", 13)
	for _, s := range []string{"!", "!A", "[", "[]", "[!]", "[A", "[A=1", "[A)", "[A!!]", "[[A!]!!]", "[[A]", "[[A)]", "[[[A]]", "$", "1", `"A"`, "{", "[1]", "[A B]", "[...", "=1", "@", "(", many + "A" + strings.Repeat("]", 13), many, many + "{a(b:" + many} {
		wantErrno(t, ahead+s, len(ahead), api.ErrText)
		wantErrno(t, ahead+" \n"+s+"){a}", len(ahead)+2, api.ErrText)
		wantErrno(t, "{a}"+ahead+"A=1 $b: "+s+"){a}", 3+len(ahead)+8, api.ErrText)
	}
	wantErrno(t, ahead+" #x", len(ahead)+3, api.ErrText)
}

// P6.2, ErrDeep: sets.
func TestDeepSets(t *testing.T) {
	deep := func(begin, inner string, n int) string {
		return strings.Repeat(begin, n) + inner + strings.Repeat("}", n)
	}
	for s, at := range map[string]int{
		deep("{a", "", 13): 24, deep("{a", "", 40): 24, strings.Repeat("{a", 13): 24, strings.Repeat("{a", 12) + "{": 24, strings.Repeat("{a", 12) + "{}": 24, strings.Repeat("{a", 12) + "{1": 24,
		deep("{...", "{a}", 12): 48, deep("{...on T", "{a}", 12): 96, deep("{...@d", "{a}", 12): 72, deep("{...{a", "", 7): 36,
		"query Q" + deep("{a", "", 13): 31, "mutation" + deep("{a", "", 13): 32, "fragment F on T" + deep("{a", "", 13): 39, "{a}" + deep("{a", "", 13): 27,
		deep("{a", "", 12) + deep("{a", "", 13): 60, "{a(x:[{}])@d(x:[[]])" + deep("{a", "", 12) + "}": 42, deep("{a", "{b}c{d}", 11) + deep("{a", "", 13): 64,
		deep("{a", "", 13) + "}": 24, "{b" + deep("{a", "", 11) + "c" + deep("{a", "", 12): 58,
	} {
		wantErrno(t, s, at, api.ErrDeep)
	}
	// What stands ahead of it is first, and a sign that opens no set is not too deep.
	for s, at := range map[string]int{
		strings.Repeat("{a", 12): 24, strings.Repeat("{a", 11) + "{{": 23, deep("{a", "", 12) + "}{a": 36, "{}" + deep("{a", "", 13): 1, deep("{a", "@", 12) + deep("{a", "", 13): 25, deep("{...", "", 12): 48, strings.Repeat("{a", 12) + "(x:1{": 28,
	} {
		wantErrno(t, s, at, api.ErrText)
	}
	for _, s := range []string{deep("{a", "", 12), deep("{...", "{a}", 11), deep("{...on T@d", "{a}", 11), deep("{a", "b c(x:1)@d ...F", 12), "fragment F on T" + deep("{a", "", 12), strings.Repeat(deep("{a", "", 12), 5), deep("{a", "{b}c{d}...{e}", 11), deep("{...", "a", 12)} {
		if d, at, errno := doc.Parse(s); errno != api.OK || at != 0 || !doc.Check(d) {
			t.Errorf("Parse(%q) is %d, %d", s, at, errno)
		}
	}
}

// P6.2, ErrDeep: values, however deep the set that they stand in.
func TestDeepValues(t *testing.T) {
	many := strings.Repeat("[", 13)
	twelve := strings.Repeat("[", 12) + "1" + strings.Repeat("]", 12)
	for s, at := range map[string]int{
		"{a(b:" + many: 17, "{a(b:" + many + ")}": 17, "{a(b:" + strings.Repeat("{c:", 13): 41, "{a(b:" + strings.Repeat("[{c:", 7): 5 + 24, "{a(b:" + twelve + " c:" + many: 5 + 25 + 3 + 12, "{a@d(b:" + many: 19, "query@d(b:" + many: 22, "{...F@d(b:" + many: 22, "{...@d(b:" + many: 21, "fragment F on T@d(b:" + many: 32, "query($a:A=" + many: 23, "query($a:A=" + strings.Repeat("{c:", 13): 47,
		strings.Repeat("{a", 12) + "(b:" + many: 24 + 3 + 12,
	} {
		wantErrno(t, s, at, api.ErrDeep)
	}
	for s, at := range map[string]int{"{a(b:" + strings.Repeat("[", 12) + "}" + many: 17, "{a(b:" + twelve + "!" + many: 30, "{a(1:" + many: 3, "{a(" + many: 3, "{a" + many: 2, "{a(b:" + strings.Repeat("[", 12): 17} {
		wantErrno(t, s, at, api.ErrText)
	}
	for _, s := range []string{"{a(b:" + twelve + ")}", "query($a:A=" + twelve + "){a}", strings.Repeat("{a", 12) + "(b:" + twelve + ")@d(b:" + twelve + ")" + strings.Repeat("}", 12)} {
		if d, at, errno := doc.Parse(s); errno != api.OK || at != 0 || !doc.Check(d) {
			t.Errorf("Parse(%q) is %d, %d", s, at, errno)
		}
	}
}

// P6.2: bytes, then lex's error, then tokens, then what stands first.
func TestBounds(t *testing.T) {
	blanks := func(n int) string { return strings.Repeat(" ", n) }
	names := func(n int) string { return strings.Repeat("a ", n) }
	for s, at := range map[string]int{
		"{a ?}": 3, "{a(b:\"x)}": 5, "{a(b:01)}": 5, "?": 0, "} ?": 2, "{a}\xff": 3, "{a" + strings.Repeat("x", 40) + "}": 1, "{a(b:\"\u00e9\u00e9\" ?)}": 12, `{a(b:"""x)}`: 5,
		strings.Repeat("{a", 13) + "?": 26, strings.Repeat("} ", 601) + "?": 1202, "{" + names(599) + "} ..": 1201,
		"}" + blanks(3998) + "?": 3999, "#\xff\n?": 3, "{a(b:\"\u00e9\u20ac\" c)}": 14,
	} {
		wantErrno(t, s, at, api.ErrText)
	}
	for _, s := range []string{"{a}" + blanks(3998), blanks(4001), strings.Repeat("?", 4001), strings.Repeat("{a", 2001), "{" + names(599) + "}", strings.Repeat("} ", 601), strings.Repeat("{a", 301), strings.Repeat("?", 9000), "{a}#" + blanks(3997), "{" + names(599) + "} #", strings.Repeat("a", 4001)} {
		wantErrno(t, s, 0, api.ErrBig)
	}
	wantErrno(t, blanks(4000), 4000, api.ErrText)
	wantErrno(t, "{"+names(599), 1199, api.ErrText)
	wantErrno(t, strings.Repeat("} ", 600), 0, api.ErrText)
	wantErrno(t, strings.Repeat("{a", 300), 24, api.ErrDeep)
	wantErrno(t, strings.Repeat("a", 4000), 0, api.ErrText)
	for _, s := range []string{"{a}" + blanks(3997), "{" + names(598) + "}", "{a}#" + strings.Repeat("\xff", 3996), `{a(b:"` + strings.Repeat("x", 3991) + `")}`, strings.Repeat("{a}", 200)} {
		if d, at, errno := doc.Parse(s); errno != api.OK || at != 0 || !doc.Check(d) {
			t.Errorf("Parse(%.20q..) of %d bytes is %d, %d", s, len(s), at, errno)
		}
	}
}
