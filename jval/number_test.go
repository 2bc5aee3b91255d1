package jval_test

import (
	"regexp"
	"strings"
	"testing"

	"refectory/api"
	"refectory/jval"
)

// P2.1, Number: those that are.
func TestNumber(t *testing.T) {
	nines := strings.Repeat("9", api.MaxName)
	for s, want := range map[string]bool{
		"0": true, "-0": true, "1": true, "9": true, "10": true, "-7": true, "900": true, "1234567890": true,
		nines:             true,
		"-" + nines[1:]:   true,
		"0.0":             false,
		"-0.0":            false,
		"0.00100":         false,
		"1.5":             false,
		"10.05":           false,
		"1e5":             false,
		"1E5":             false,
		"1e+5":            false,
		"1E-5":            false,
		"1e05":            false,
		"1e-00":           false,
		"0e0":             false,
		"-0E+0":           false,
		"-12.340e-56":     false,
		"1e999999":        false,
		"0." + nines[2:]:  false,
		"1e" + nines[2:]:  false,
		"1.0" + nines[3:]: false,
	} {
		if whole, ok := jval.Number(s); whole != want || !ok {
			t.Errorf("Number(%q) is %v, %v", s, whole, ok)
		}
	}
}

// P2.1, Number: those that are not; R2: whole is false, too.
func TestNumberRefuses(t *testing.T) {
	nines := strings.Repeat("9", api.MaxName)
	for _, s := range []string{
		"", "-", "--1", "+1", "+0", "- 1", "1-", "-a",
		"00", "01", "-00", "-01", "007", "00.5", "01e5",
		".", ".5", "-.5", "1.", "-1.", "0.", "1..5", "1.5.5", "1.-5", "1.+5", "1. 5", "1,5",
		"e", "e5", "-e5", "1e", "1E", "1e+", "1e-", "1e+-5", "1e--5", "1ee5", "1e5e5", "1e1.5", "1e.5", "1.e5", ".e5", "1e5.", "1e 5", "1e5-",
		" 1", "1 ", "1\n", "\t1", "1_0", "0x1", "0b1", "0o1", "1a", "a1", "1f", "1n", "1\x00",
		"NaN", "nan", "Infinity", "-Infinity", "inf", "null", "true",
		"\u0661", "1\u0661", "\uff11", "1.\uff11", "\u22121", "1\u00b7", "1\xff", "\xb1", "1e\xff5",
		nines + "9", "-" + nines, "0." + nines, "1e" + nines, nines[1:] + ".5",
	} {
		if whole, ok := jval.Number(s); whole || ok {
			t.Errorf("Number(%q) is %v, %v", s, whole, ok)
		}
	}
}

var (
	wholeForm  = regexp.MustCompile(`^-?(0|[1-9][0-9]*)$`)
	numberForm = regexp.MustCompile(`^-?(0|[1-9][0-9]*)(\.[0-9]+)?([eE][+-]?[0-9]+)?$`)
)

// holdNumber asks the document's form, written as one expression.
func holdNumber(t *testing.T, s string) {
	t.Helper()
	whole, ok := jval.Number(s)
	fits := len(s) <= api.MaxName
	if ok != (fits && numberForm.MatchString(s)) || whole != (fits && wholeForm.MatchString(s)) {
		t.Errorf("Number(%q) is %v, %v", s, whole, ok)
	}
}

func TestNumberOfShortTexts(t *testing.T) {
	const signs = "-+019.eEx"
	texts := []string{""}
	for range 7 {
		var longer []string
		for _, s := range texts {
			holdNumber(t, s)
			for i := range signs {
				longer = append(longer, s+signs[i:i+1])
			}
		}
		texts = longer
	}
}

func TestNumberOfEachByte(t *testing.T) {
	for b := range 256 {
		c := string([]byte{byte(b)})
		for _, around := range []string{"*", "-*", "*1", "1*", "0*", "1*5", "0*5", "1.*", "1.5*", "1.5*5", "1e*", "1e*5", "1e5*", "-0*0"} {
			holdNumber(t, strings.Replace(around, "*", c, 1))
		}
	}
}

// R1: a long text is refused, and soon.
func TestNumberOfMuch(t *testing.T) {
	for _, c := range []string{"9", "0", "-", ".", "e", "9.", "\xff"} {
		if whole, ok := jval.Number(strings.Repeat(c, 1<<20)); whole || ok {
			t.Errorf("%q, often: %v, %v", c, whole, ok)
		}
	}
}
