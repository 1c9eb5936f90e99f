package gtin

import (
	"slices"
	"strings"

	"larder/api"
)

// Find answers the Value of the first element of l with this Ai, and whether there is one.
func Find(l []api.Element, ai string) (string, bool) {
	i := placeOf(l, ai)
	if i < 0 {
		return "", false
	}
	return strings.Clone(l[i].Value), true
}

// placeOf answers the place of the first element of l with this Ai, or -1.
func placeOf(l []api.Element, ai string) int {
	return slices.IndexFunc(l, func(x api.Element) bool { return x.Ai == ai })
}

// Amount answers the number that e says, how many of its digits are decimals, and whether e says an amount at all.
func Amount(e api.Element) (int, int, bool) {
	k, ok := kindOf(e.Ai)
	if !ok || k != measure && k != price || formOf(k).fault(e.Value) != api.OK {
		return 0, 0, false
	}
	return number(e.Value), number(e.Ai[len(e.Ai)-1:]), true
}

const (
	firstNow, lastNow = 100, 9900
	yearsBack         = 49
)

// Day answers the year, the month and the day (0 if only the month is known) that e says in the year now, and whether e says a day at all.
func Day(e api.Element, now int) (int, int, int, bool) {
	k, ok := kindOf(e.Ai)
	if !ok || k != day || formOf(k).fault(e.Value) != api.OK || now < firstNow || now > lastNow {
		return 0, 0, 0, false
	}
	first := now - yearsBack
	year := first + (number(e.Value[:2])+100-first%100)%100
	return year, number(e.Value[2:4]), number(e.Value[4:]), true
}
