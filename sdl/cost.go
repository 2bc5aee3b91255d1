package sdl

import (
	"strconv"
	"strings"
)

const (
	costOfNone = 1       // of a field that does not tell its cost
	mostCost   = 1000000 // of a field that tells more
	mostDigits = 6       // of a number that is less than that
)

func (p *parser) cost() int {
	if !p.TakeSign("@") {
		return costOfNone
	}
	p.Word("cost")
	p.Sign("(")
	p.Word("n")
	p.Sign(":")
	n := costOf(p.Int())
	p.Sign(")")
	return n
}

// costOf takes a whole number as it is written, of any length.
func costOf(s string) int {
	digits, below := strings.CutPrefix(s, "-")
	n := mostCost
	if len(digits) <= mostDigits {
		n, _ = strconv.Atoi(digits)
	}
	if below {
		return -n
	}
	return n
}
