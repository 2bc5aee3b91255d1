package value

import "refectory/lex"

// reader goes through tokens once.
type reader struct {
	tokens []lex.Token
	at     int
}

// readerAt stands at the end, where there is no such place.
func readerAt(tokens []lex.Token, at int) *reader {
	if at < 0 || at > len(tokens) {
		at = len(tokens)
	}
	return &reader{tokens, at}
}

// token is one of no kind at the end.
func (r *reader) token() lex.Token {
	if r.at == len(r.tokens) {
		return lex.Token{}
	}
	return r.tokens[r.at]
}

func isSign(token lex.Token, sign string) bool {
	return token.Kind == lex.Sign && token.S == sign
}

// takeSign goes behind the next token, if it is that sign.
func (r *reader) takeSign(sign string) bool {
	if !isSign(r.token(), sign) {
		return false
	}
	r.at++
	return true
}

// takeName goes behind the next token, if it is a name.
func (r *reader) takeName() (string, bool) {
	token := r.token()
	if token.Kind != lex.Name {
		return "", false
	}
	r.at++
	return token.S, true
}
