package gtin_test

import (
	"math/rand"
	"strings"
	"testing"

	"larder/api"
	"larder/gtin"
)

func wantShown(t *testing.T, text string, want ...api.Element) {
	t.Helper()
	l, e, at := gtin.ParseShown(text)
	if e != api.OK || at != 0 || !same(l, want) {
		t.Errorf("ParseShown(%q): %v, %d, %d; want %v", text, l, e, at, want)
	}
	if s, e, at := gtin.PrintShown(want); s != text || e != api.OK || at != 0 {
		t.Errorf("PrintShown(%v): %q, %d, %d; want %q", want, s, e, at, text)
	}
}

func wantShownFault(t *testing.T, text string, want api.Errno, wantAt int) {
	t.Helper()
	if l, e, at := gtin.ParseShown(text); len(l) != 0 || e != want || at != wantAt {
		t.Errorf("ParseShown(%.60q): %v, %d, %d; want %d, %d", text, l, e, at, want, wantAt)
	}
}

func TestP2_10ShownStrings(t *testing.T) {
	eleven := api.Element{Ai: "20", Value: "11"}
	wantShown(t, "")
	wantShown(t, "(20)11", eleven)
	wantShown(t, "(10)A(20)11", api.Element{Ai: "10", Value: "A"}, eleven)
	wantShown(t, "(20)11(10)A", eleven, api.Element{Ai: "10", Value: "A"})
	wantShown(t, "(10)((", api.Element{Ai: "10", Value: "("})
	wantShown(t, "(10)))", api.Element{Ai: "10", Value: ")"})
	wantShown(t, "(10)(((())))", api.Element{Ai: "10", Value: "(())"})
	wantShown(t, "(10)))(((((20)11", api.Element{Ai: "10", Value: ")(("}, eleven)
	wantShown(t, "(10)A(((20)11", api.Element{Ai: "10", Value: "A("}, eleven)
	wantShown(t, "(10)A))(20)11", api.Element{Ai: "10", Value: "A)"}, eleven)
}

func TestP2_10FaultsOfShownStrings(t *testing.T) {
	for _, x := range []struct {
		text string
		e    api.Errno
		at   int
	}{
		{"10A", api.ErrOpen, 0}, {")", api.ErrOpen, 0}, {" (10)A", api.ErrOpen, 0},
		{"(", api.ErrShort, 1}, {"(10", api.ErrShort, 3}, {"(xx", api.ErrShort, 3}, {"(10)A(20", api.ErrShort, 8},
		{"()", api.ErrAi, 1}, {"(05)1", api.ErrAi, 1}, {"(0)1", api.ErrAi, 1}, {"( 10)A", api.ErrAi, 1}, {"((10))A", api.ErrAi, 1}, {"(10)A(05)1", api.ErrAi, 6},
		{"(10)A)", api.ErrOpen, 5}, {"(10)A)(20)11", api.ErrOpen, 5}, {"(10)A(20)11)", api.ErrOpen, 11},
		{"(10))))", api.ErrOpen, 6}, {"(10)A(((", api.ErrShort, 8}, {"(10)A((((20)11", api.ErrOpen, 11}, {"(10)A(((05)1", api.ErrAi, 8},
	} {
		wantShownFault(t, x.text, x.e, x.at)
	}
}

// Behind the brackets, what Print says is told with the number of the element, not with a place.
func TestP2_10FaultsOfShownElements(t *testing.T) {
	long := ""
	for _, ai := range []string{"91", "92", "93", "94", "95", "96"} {
		long += "(" + ai + ")" + strings.Repeat("a", 90)
	}
	for _, x := range []struct {
		text string
		e    api.Errno
		at   int
	}{
		{"(10)", api.ErrShort, 0}, {"(20)1x", api.ErrDigit, 0}, {"(20)11(10)\x1d", api.ErrChar, 1}, {"(20)111", api.ErrLarge, 0},
		{"(20)11(10)A(20)12", api.ErrTwice, 2}, {"(20)11(37)1", api.ErrPair, 1}, {"(01)06291041500213(02)1", api.ErrPair, 1},
		{"(20)11(01)06291041500214", api.ErrCheck, 1}, {"(20)11(10)A(17)251301", api.ErrDay, 2},
		{"(20)x(05)1", api.ErrAi, 6}, {"(20)x(10)A)", api.ErrOpen, 10}, {"(20)x(10", api.ErrShort, 8},
		{long, api.ErrLong, 6},
	} {
		wantShownFault(t, x.text, x.e, x.at)
	}
}

func TestP2_10HowLongAShownStringMayBe(t *testing.T) {
	text := "(10)" + strings.Repeat("A", 2044)
	wantShownFault(t, text, api.ErrLarge, 0)
	wantShownFault(t, text+"A", api.ErrLong, 0)
	wantShownFault(t, strings.Repeat("(", 2048), api.ErrShort, 2048)
	wantShownFault(t, strings.Repeat("x", 2049), api.ErrLong, 0)
	wantShownFault(t, strings.Repeat("x", 1<<20), api.ErrLong, 0)
	wantShownFault(t, strings.Repeat("(10)", 512), api.ErrShort, 0)
	wantShownFault(t, strings.Repeat("(8005)12", 256), api.ErrShort, 0)
}

func TestP2_10ThereAndBack(t *testing.T) {
	r := rand.New(rand.NewSource(30))
	for range 3000 {
		l := randomList(r)
		if _, e, _ := gtin.Print(l); e != api.OK {
			continue
		}
		text := ""
		for _, x := range l {
			text += "(" + x.Ai + ")" + strings.ReplaceAll(strings.ReplaceAll(x.Value, "(", "(("), ")", "))")
		}
		wantShown(t, text, l...)
	}
}

func TestP2_10WhatIsTakenIsPrintedAsItStands(t *testing.T) {
	r := rand.New(rand.NewSource(31))
	taken := 0
	for range 30000 {
		shown, _, _ := gtin.PrintShown(randomList(r))
		text := damaged(r, shown, "01A()((")
		l, e, at := gtin.ParseShown(text)
		if e != api.OK {
			if len(l) != 0 || at < 0 || at > len(text) {
				t.Fatalf("ParseShown(%q): %v, %d, %d", text, l, e, at)
			}
			continue
		}
		taken++
		if s, e, at := gtin.PrintShown(l); s != text || e != api.OK || at != 0 {
			t.Fatalf("PrintShown(ParseShown(%q)): %q, %d, %d", text, s, e, at)
		}
	}
	if taken < 1000 {
		t.Errorf("only %d texts were taken", taken)
	}
}
