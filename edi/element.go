package edi

import (
	"strconv"
	"strings"

	"larder/api"
	"larder/gtin"
)

const (
	mostControl  = 999999999 // what nine digits hold, of quantities and prices too
	controlBytes = 9
	partyBytes   = 15
)

// check says what is wrong with the text of an element, and may lay down what it says.
type check func(text string) error

// each holds the elements of a segment against their checks, one by one; there must be as many as checks.
func each(elems []string, checks ...check) error {
	if len(elems) != len(checks) {
		return &Fault{Element: min(len(elems), len(checks)) + 1, Err: ErrElement}
	}
	for i, c := range checks {
		if err := c(elems[i]); err != nil {
			return &Fault{Element: i + 1, Err: err}
		}
	}
	return nil
}

// is takes one text alone, and tells err of any other.
func is(want string, err error) check {
	return func(text string) error {
		if text != want {
			return err
		}
		return nil
	}
}

func word(want string) check { return is(want, ErrElement) }

func count(n int) check { return is(strconv.Itoa(n), ErrCount) }

// keep takes what is ok, and lays down a copy of it.
func keep(to *string, ok func(text string) bool) check {
	return func(text string) error {
		if !ok(text) {
			return ErrElement
		}
		*to = strings.Clone(text)
		return nil
	}
}

// whole takes a number in its one form from low to high, which are not below 0.
func whole(to *int, low, high int) check {
	return func(text string) error {
		n, err := strconv.Atoi(text)
		if err != nil || !isWhole(text) || n < low || n > high {
			return ErrElement
		}
		*to = n
		return nil
	}
}

// cents takes a price with two digits behind its point.
func cents(to *int) check {
	return func(text string) error {
		number, part, _ := strings.Cut(text, ".")
		n, err := strconv.Atoi(number + part)
		if err != nil || !isWhole(number) || len(part) != 2 || n > mostControl {
			return ErrElement
		}
		*to = n
		return nil
	}
}

// shownCents writes a price so that cents takes it; one that is below 0 it writes as something that cents does not take.
func shownCents(n int) string {
	if n < 0 {
		return strconv.Itoa(n)
	}
	return strconv.Itoa(n/100) + "." + filled(n%100, 2)
}

// filled writes a number with zeros ahead, so that it has so many bytes at least.
func filled(n, bytes int) string {
	text := strconv.Itoa(n)
	return strings.Repeat("0", max(0, bytes-len(text))) + text
}

// qualifier takes the qualifier of the code that is the last of elems; of something that is no trade code, any of the four.
func qualifier(elems []string) check {
	return func(text string) error {
		switch text {
		case "EO", "UP", "EN", "UK":
		default:
			return ErrElement
		}
		if code := elems[len(elems)-1]; isTrade(code) && text != qualifierOf(code) {
			return ErrElement
		}
		return nil
	}
}

func qualifierOf(code string) string {
	switch len(code) {
	case 8:
		return "EO"
	case 12:
		return "UP"
	case 13:
		return "EN"
	}
	return "UK"
}

func isTrade(code string) bool {
	_, e := gtin.Normal(code)
	return e == api.OK
}

// idOf answers the Id of the sets that a group of this kind has, or nothing.
func idOf(kind string) string {
	switch kind {
	case "PO":
		return orderId
	case "IB":
		return adviceId
	case "FA":
		return ackId
	}
	return ""
}

func isKind(text string) bool { return idOf(text) != "" }

func isParty(text string) bool {
	return len(text) >= 1 && len(text) <= partyBytes && all(text, isSign)
}

func isDay(text string) bool {
	_, _, day, ok := gtin.Day(api.Element{Ai: "11", Value: text}, 2000)
	return ok && day > 0
}

func isLongDay(text string) bool {
	return len(text) > 2 && all(text[:2], isDigit) && isDay(text[2:])
}

func isTime(text string) bool {
	return len(text) == 4 && all(text, isDigit) && text[:2] <= "23" && text[2:] <= "59"
}

func isSetControl(text string) bool {
	return len(text) >= 4 && len(text) <= controlBytes && all(text, isDigit)
}

// isWhole says whether digits are a number's one form, without a sign.
func isWhole(digits string) bool {
	return digits == "0" || digits != "" && digits[0] != '0' && all(digits, isDigit)
}

func all(text string, ok func(c byte) bool) bool {
	for i := range len(text) {
		if !ok(text[i]) {
			return false
		}
	}
	return true
}

func isDigit(c byte) bool { return '0' <= c && c <= '9' }

func isCapital(c byte) bool { return 'A' <= c && c <= 'Z' }

func isSign(c byte) bool { return isCapital(c) || isDigit(c) }
