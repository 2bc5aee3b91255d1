package jval

import (
	"strings"

	"refectory/api"
)

// Number tells whether a text is a number, and a whole one.
func Number(s string) (whole bool, ok bool) {
	if len(s) > api.MaxName {
		return false, false
	}
	behindWhole, okWhole := cutWhole(strings.TrimPrefix(s, "-"))
	behindFraction, okFraction := cutFraction(behindWhole)
	rest, okExponent := cutExponent(behindFraction)
	if !okWhole || !okFraction || !okExponent || rest != "" {
		return false, false
	}
	return behindWhole == "", true
}

// cutWhole ends behind a first 0: what follows it is no digit of the number.
func cutWhole(s string) (string, bool) {
	if rest, zero := strings.CutPrefix(s, "0"); zero {
		return rest, true
	}
	return cutDigits(s)
}

func cutFraction(s string) (string, bool) {
	if rest, point := strings.CutPrefix(s, "."); point {
		return cutDigits(rest)
	}
	return s, true
}

func cutExponent(s string) (string, bool) {
	if !beginsWith(s, "eE") {
		return s, true
	}
	s = s[1:]
	if beginsWith(s, "+-") {
		s = s[1:]
	}
	return cutDigits(s)
}

func beginsWith(s, oneOf string) bool {
	return s != "" && strings.IndexByte(oneOf, s[0]) >= 0
}

// cutDigits is what stands behind the digits; false: there are none.
func cutDigits(s string) (string, bool) {
	rest := strings.TrimLeft(s, "0123456789")
	return rest, len(rest) < len(s)
}
