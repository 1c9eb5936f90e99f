package gtin_test

import (
	"math/rand"
	"strings"
	"testing"

	"larder/api"
	"larder/gtin"
)

const (
	code14 = "06291041500213"
	ender  = "\x1d"
)

func TestP2_7OfNothing(t *testing.T) {
	wantParse(t, "", nil)
	wantPrint(t, nil, "", api.OK, 0)
	wantPrint(t, []api.Element{}, "", api.OK, 0)
}

func TestP2_7HowLongATextMayBe(t *testing.T) {
	var l []api.Element
	for _, ai := range []string{"91", "92", "93", "94", "95"} {
		l = append(l, api.Element{Ai: ai, Value: strings.Repeat("a", 90)})
	}
	l = append(l, api.Element{Ai: "96", Value: strings.Repeat("b", 512-5*93-2)})
	text, e, _ := gtin.Print(l)
	if len(text) != api.MaxLabel || e != api.OK {
		t.Fatalf("Print: %d bytes, %d", len(text), e)
	}
	wantParse(t, text, l)
	wantFault(t, text+"b", api.ErrLong, 0)
	wantFault(t, text+ender, api.ErrLong, 0)
	wantFault(t, strings.Repeat("x", 513), api.ErrLong, 0)
	wantFault(t, strings.Repeat("x", 512), api.ErrAi, 0)
	wantFault(t, strings.Repeat("0", 1<<20), api.ErrLong, 0)
	l[5].Value += "b"
	wantPrint(t, l, "", api.ErrLong, 6)
}

func TestP2_7AnEnderBehindTheLastElement(t *testing.T) {
	r := rand.New(rand.NewSource(20))
	for _, x := range table() {
		if mate(x.ai) != nil {
			continue
		}
		text := x.ai + x.value(r, x.most)
		if x.plain {
			wantFault(t, text+ender, api.ErrAi, len(text))
			wantFault(t, text+ender+"20", api.ErrAi, len(text))
			continue
		}
		wantFault(t, text+ender, api.ErrTail, len(text))
		wantFault(t, text+ender+ender, api.ErrAi, len(text)+1)
		wantFault(t, x.ai+ender, api.ErrShort, len(x.ai))
		wantFault(t, x.ai, api.ErrShort, len(x.ai))
	}
	wantFault(t, ender, api.ErrAi, 0)
}

// Which of several errors is told.
func TestP2_7TheFirstErrorIsTold(t *testing.T) {
	for _, x := range []struct {
		text string
		e    api.Errno
		at   int
	}{
		{"10A" + ender + "10 ", api.ErrTwice, 4},
		{"10A" + ender + "10", api.ErrTwice, 4},
		{"01" + code14 + "01", api.ErrTwice, 16},
		{"01" + code14 + "02x", api.ErrPair, 16},
		{"02" + code14 + "01" + code14, api.ErrPair, 16},
		{"02" + code14 + "02", api.ErrTwice, 16},
		{"0206291041500214", api.ErrCheck, 15},
		{"20x", api.ErrDigit, 2},
		{"201", api.ErrShort, 3},
		{"20", api.ErrShort, 2},
		{"172513x", api.ErrDigit, 6},
		{"1725130", api.ErrShort, 7},
		{"01062910415002x4", api.ErrDigit, 14},
		{"30 2345678901", api.ErrDigit, 2},
		{"3012345678 ", api.ErrLarge, 10},
		{"10" + strings.Repeat("A", 20) + " ", api.ErrLarge, 22},
		{"10" + strings.Repeat("A", 19) + " A", api.ErrChar, 21},
		{"80051x", api.ErrDigit, 5},
		{"800512345" + ender + "20", api.ErrShort, 9},
		{"8005123456x", api.ErrLarge, 10},
		{"30" + ender + "30", api.ErrShort, 2},
		{"371" + ender, api.ErrTail, 3},
		{"371" + ender + "9", api.ErrShort, 5},
		{"371" + ender + "5", api.ErrAi, 4},
		{"2011371", api.ErrPair, 4},
		{"10A" + ender + "371" + ender + "2011", api.ErrPair, 4},
		{"2011" + "02" + code14, api.ErrPair, 4},
	} {
		wantFault(t, x.text, x.e, x.at)
	}
}

func TestP2_7PairsThatAreRight(t *testing.T) {
	for _, text := range []string{"02" + code14 + "371", "371" + ender + "02" + code14, "371" + ender + "10A" + ender + "02" + code14 + "2011", "01" + code14 + "10A"} {
		l, e, at := gtin.Parse(text)
		if e != api.OK || at != 0 {
			t.Errorf("Parse(%q): %d, %d", text, e, at)
		}
		wantPrint(t, l, text, api.OK, 0)
	}
}

func TestP2_8TheFirstErrorIsTold(t *testing.T) {
	type list = []api.Element
	good := api.Element{Ai: "20", Value: "11"}
	for _, x := range []struct {
		l  list
		e  api.Errno
		at int
	}{
		{list{good, {Ai: "05", Value: ""}}, api.ErrAi, 1},
		{list{good, good}, api.ErrTwice, 1},
		{list{good, {Ai: "20", Value: "x"}}, api.ErrTwice, 1},
		{list{{Ai: "01", Value: code14}, {Ai: "02", Value: "x"}}, api.ErrPair, 1},
		{list{{Ai: "02", Value: code14}, {Ai: "01", Value: "x"}}, api.ErrPair, 1},
		{list{{Ai: "02", Value: code14}, {Ai: "02", Value: code14}}, api.ErrTwice, 1},
		{list{{Ai: "17", Value: "x"}}, api.ErrShort, 0},
		{list{{Ai: "17", Value: "25133x"}}, api.ErrDigit, 0},
		{list{{Ai: "17", Value: "2513310"}}, api.ErrLarge, 0},
		{list{{Ai: "17", Value: "25133 1"}}, api.ErrLarge, 0},
		{list{{Ai: "30", Value: " 23456789"}}, api.ErrLarge, 0},
		{list{{Ai: "10", Value: strings.Repeat(" ", 21)}}, api.ErrLarge, 0},
		{list{{Ai: "8005", Value: "1234x"}}, api.ErrShort, 0},
		{list{{Ai: "00", Value: strings.Repeat("0", 17) + "x"}}, api.ErrDigit, 0},
		{list{{Ai: "37", Value: "1"}, {Ai: "17", Value: "251301"}}, api.ErrDay, 1},
		{list{{Ai: "37", Value: "1"}, good}, api.ErrPair, 0},
		{list{{Ai: "02", Value: code14}}, api.ErrPair, 0},
		{list{good, {Ai: "37", Value: "1"}, {Ai: "10", Value: "A"}}, api.ErrPair, 1},
		{list{good, {Ai: "10", Value: "A"}, {Ai: "02", Value: code14}}, api.ErrPair, 2},
		{list{{Ai: "17", Value: "251301"}, {Ai: "05"}}, api.ErrDay, 0},
	} {
		wantPrint(t, x.l, "", x.e, x.at)
	}
	var long list
	for _, ai := range []string{"91", "92", "93", "94", "95", "96"} {
		long = append(long, api.Element{Ai: ai, Value: strings.Repeat("a", 90)})
	}
	wantPrint(t, long, "", api.ErrLong, 6)
	wantPrint(t, append(long, api.Element{Ai: "37", Value: "1"}), "", api.ErrPair, 6)
	wantPrint(t, append(long, api.Element{Ai: "37", Value: ""}), "", api.ErrShort, 6)
}

func TestP2_8ManyElements(t *testing.T) {
	l := make([]api.Element, 100000)
	for i := range l {
		l[i] = api.Element{Ai: "10", Value: "A"}
	}
	wantPrint(t, l, "", api.ErrTwice, 1)
}

// randomList answers elements that are right, but for their number of bytes.
func randomList(r *rand.Rand) []api.Element {
	var l []api.Element
	rows := table()
	r.Shuffle(len(rows), func(i, j int) { rows[i], rows[j] = rows[j], rows[i] })
	for _, x := range rows[:r.Intn(10)] {
		if x.ai != "01" && x.ai != "02" && x.ai != "37" {
			l = append(l, api.Element{Ai: x.ai, Value: x.value(r, x.least+r.Intn(x.most-x.least+1))})
		}
	}
	switch r.Intn(3) {
	case 0:
		l = append(l, api.Element{Ai: "01", Value: randomCode(r, 14)})
	case 1:
		l = append(l, api.Element{Ai: "02", Value: randomCode(r, 14)}, api.Element{Ai: "37", Value: randomDigits(r, 8)})
	}
	r.Shuffle(len(l), func(i, j int) { l[i], l[j] = l[j], l[i] })
	return l
}

// slowText writes elements by the table's word of what is plain.
func slowText(l []api.Element) string {
	var parts []string
	rows := table()
	for i, x := range l {
		part := x.Ai + x.Value
		for _, row := range rows {
			if row.ai == x.Ai && !row.plain && i < len(l)-1 {
				part += ender
			}
		}
		parts = append(parts, part)
	}
	return strings.Join(parts, "")
}

func TestP2_9ThereAndBack(t *testing.T) {
	r := rand.New(rand.NewSource(21))
	for range 3000 {
		l := randomList(r)
		text := slowText(l)
		if len(text) > api.MaxLabel {
			wantPrint(t, l, "", api.ErrLong, len(l))
			continue
		}
		wantPrint(t, l, text, api.OK, 0)
		wantParse(t, text, l)
	}
}

// damaged answers text with a piece taken out, put in, doubled or changed.
func damaged(r *rand.Rand, text, letters string) string {
	for range 1 + r.Intn(3) {
		at := r.Intn(len(text) + 1)
		to := min(len(text), at+r.Intn(5))
		put := ""
		if r.Intn(2) == 0 {
			put = letters[r.Intn(len(letters)):][:1]
		}
		if r.Intn(4) == 0 {
			put = text[at:to] + text[at:to]
		}
		text = text[:at] + put + text[to:]
	}
	return text
}

func TestP2_9WhatIsTakenIsPrintedAsItStands(t *testing.T) {
	r := rand.New(rand.NewSource(22))
	taken := 0
	for range 30000 {
		text := damaged(r, slowText(randomList(r)), "0123789A)( "+ender)
		l, e, at := gtin.Parse(text)
		if e != api.OK {
			if len(l) != 0 || at < 0 || at > len(text) {
				t.Fatalf("Parse(%q): %v, %d, %d", text, l, e, at)
			}
			continue
		}
		taken++
		wantPrint(t, l, text, api.OK, 0)
	}
	if taken < 1000 {
		t.Errorf("only %d texts were taken", taken)
	}
}
