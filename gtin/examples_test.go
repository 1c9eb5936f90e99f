package gtin_test

import (
	"strings"
	"testing"

	"larder/api"
	"larder/gtin"
)

// The examples of section 2.6, in their order.

func TestExample1To3Codes(t *testing.T) {
	if d, e := gtin.Digit("629104150021"); d != '3' || e != api.OK {
		t.Errorf("Digit: %q, %d", d, e)
	}
	wantCheck(t, "6291041500213", api.OK, 0)
	wantCheck(t, "6291041500214", api.ErrCheck, 12)
	wantCheck(t, "12345670", api.OK, 0)
	wantText(t, "Normal", "12345670", "00000012345670", api.OK)(gtin.Normal("12345670"))
	wantText(t, "Short", "00000012345670", "12345670", api.OK)(gtin.Short("00000012345670"))
	wantCheck(t, "036000291452", api.OK, 0)
	wantText(t, "Short", "036000291452", "036000291452", api.OK)(gtin.Short("036000291452"))
	wantCheck(t, "00036000291452", api.OK, 0)
	wantText(t, "Short", "00036000291452", "036000291452", api.OK)(gtin.Short("00036000291452"))
	wantCheck(t, "1234567", api.ErrSize, 7)
	wantCheck(t, "12a45670", api.ErrDigit, 2)
	wantCheck(t, strings.Repeat("1", 19), api.ErrLong, 0)
}

func TestExample4And5Packs(t *testing.T) {
	wantText(t, "Pack", "036000291452", "10036000291459", api.OK)(gtin.Pack("036000291452", 1))
	wantText(t, "Unit", "10036000291459", "036000291452", api.OK)(gtin.Unit("10036000291459"))
	wantText(t, "Pack", "036000291452", "", api.ErrArg)(gtin.Pack("036000291452", 0))
	wantCheck(t, "6921041500213", api.ErrCheck, 12)
	wantCheck(t, "6291041050213", api.OK, 0)
}

func TestExample6To8Strings(t *testing.T) {
	text := "01062910415002131725123110AB-1"
	three := []api.Element{{Ai: "01", Value: "06291041500213"}, {Ai: "17", Value: "251231"}, {Ai: "10", Value: "AB-1"}}
	wantParse(t, text, three)
	wantParse(t, text+"\x1d21X", append(three, api.Element{Ai: "21", Value: "X"}))
	wantFault(t, text+"\x1d", api.ErrTail, 30)
	wantParse(t, "10AB", []api.Element{{Ai: "10", Value: "AB"}})
	wantFault(t, "0106291041500214", api.ErrCheck, 15)
	wantFault(t, "17250230", api.ErrDay, 2)
	wantParse(t, "17250200", []api.Element{{Ai: "17", Value: "250200"}})
	wantFault(t, "3", api.ErrShort, 1)
	wantFault(t, "05", api.ErrAi, 0)
	wantFault(t, "10A\x1d10B", api.ErrTwice, 4)
	wantFault(t, "3712", api.ErrPair, 0)
}

func TestExample9And10ShownAndSaid(t *testing.T) {
	wantShown(t, "(10)A((1))", api.Element{Ai: "10", Value: "A(1)"})
	wantShownFault(t, "(10)A(1)", api.ErrAi, 6)
	wantAmount(t, "3102", "001250", 1250, 2, true)
	wantDay(t, "17", "490228", 2026, 2049, 2, 28, true)
	wantDay(t, "17", "770200", 2026, 1977, 2, 0, true)
}
