package edi_test

import (
	"strings"
	"testing"

	"larder/api"
	"larder/edi"
)

// wantAsSlow holds Parse against the slow reader.
func wantAsSlow(t *testing.T, text string) {
	t.Helper()
	want, f := parseSlowly(text)
	got, err := edi.Parse(text)
	if told(err) != f || !equal(got, want) {
		t.Errorf("Parse(%s): %+v, %v, want %+v, %v", short(text), got, told(err), want, f)
	}
}

func TestP5_3Heads(t *testing.T) {
	for _, x := range []struct {
		text    string
		err     error
		element int
	}{
		{"", edi.ErrShort, 0}, {"I", edi.ErrShort, 0}, {"IS", edi.ErrShort, 0}, {"ISA", edi.ErrShort, 0}, {"ISA*", edi.ErrShort, 0}, {"ISAxx", edi.ErrShort, 0},
		{"X", edi.ErrHead, 0}, {"SA", edi.ErrHead, 0}, {"A", edi.ErrHead, 0}, {"ISB", edi.ErrHead, 0}, {"Is", edi.ErrHead, 0}, {"isa", edi.ErrHead, 0}, {" ISA", edi.ErrHead, 0}, {"\nISA", edi.ErrHead, 0}, {"\r\n" + whole, edi.ErrHead, 0},
		{head[:105], edi.ErrShort, 0}, {"ISB" + head[3:105], edi.ErrHead, 0}, {strings.Repeat("x", 106), edi.ErrHead, 0}, {"ISA" + strings.Repeat("*", 103), edi.ErrSeparator, 0}, {"ISA" + strings.Repeat("*", 102), edi.ErrShort, 0},
		{strings.Repeat(" ", 65536), edi.ErrHead, 0}, {strings.Repeat(" ", 65537), edi.ErrLong, 0}, {whole + strings.Repeat(" ", 70000), edi.ErrLong, 0},
	} {
		wantParseFault(t, "head", x.text, x.err, 0, x.element)
	}
	wantParseFault(t, "the head alone", head, edi.ErrShort, 1, 0)
	for n := range len(head) {
		wantParseFault(t, "cut", head[:n], edi.ErrShort, 0, 0)
	}
}

// Each element of the head in turn, with each wrong text that is named for it: the other elements stay.
func TestP5_3ElementsOfTheHead(t *testing.T) {
	wrong := map[int][]string{
		1: {"01", "10", "  ", "O0", "**"}, 2: {"         x", "x         ", "0000000000"}, 3: {"01", "  ", "03"}, 4: {"x         ", "\n         "},
		5: {"zz", "Z ", "01", "  "}, 6: {"               ", " A             ", "A B            ", "a              ", "A-             ", "A             -", "              A", "A\x00             ", "A\t             "},
		7: {"zz", "14"}, 8: {"               ", " B             ", "b              ", "\xc3\x89             "},
		9:  {"251331", "250001", "250100", "250132", "250431", "250229", "000230", "010229", "240230", "25123x", "      ", "2512 1", "-51231", "251200", "251232"},
		10: {"2360", "2400", "0060", "235 ", "a000", "9999", "-100", "1260", "2359"[:3] + "x"},
		12: {"00401", "00502", "     ", "0050l"}, 13: {"000000000", "00000000x", "-00000007", "+00000007", "        7", "0000000.7", "7        "}, 14: {"1", " ", "O"}, 15: {"p", "t", " ", "0", "X"},
	}
	for n, x := range headPlaces() {
		for _, w := range wrong[n+1] {
			if len(w) != x.to-x.from {
				t.Fatalf("element %d: %q has %d bytes", n+1, w, len(w))
			}
			wantParseFault(t, "element", head[:x.from]+w+head[x.to:]+order+end, edi.ErrElement, 0, n+1)
		}
		if n > 0 {
			wantParseFault(t, "separator ahead", head[:x.from-1]+"x"+head[x.from:]+order+end, edi.ErrHead, 0, n+1)
			wantParseFault(t, "separator ahead", head[:x.from-1]+"^"+head[x.from:]+order+end, edi.ErrHead, 0, n+1)
		}
	}
}

func TestP5_3TheFirstFaultOfTheHead(t *testing.T) {
	for n, x := range headPlaces() {
		if n == 10 || n == 15 {
			continue
		}
		spoilt := head[:x.from] + strings.Repeat("?", x.to-x.from) + head[x.to:]
		for m, y := range headPlaces() {
			if m <= n {
				continue
			}
			wantParseFault(t, "a later separator", spoilt[:y.from-1]+"?"+spoilt[y.from:], edi.ErrElement, 0, n+1)
		}
		if n > 0 {
			wantParseFault(t, "its own separator", spoilt[:x.from-1]+"?"+spoilt[x.from:], edi.ErrHead, 0, n+1)
		}
		wantParseFault(t, "the separators", replaced(spoilt, "^", "A"), edi.ErrSeparator, 0, 0)
	}
}

// Every byte at every place of the head.
func TestP5_3EveryByteInTheHead(t *testing.T) {
	for at := range head {
		for c := range 256 {
			text := whole[:at] + string([]byte{byte(c)}) + whole[at+1:]
			wantAsSlow(t, text)
		}
	}
}

func TestP5_3EveryThreeOfTheSeparators(t *testing.T) {
	places := []int{3, 82, 104, 105}
	for _, a := range places {
		for _, b := range places {
			if a == b {
				continue
			}
			text := []byte(whole)
			text[b] = text[a]
			wantParseFault(t, "alike", string(text), edi.ErrSeparator, 0, 0)
		}
		for _, c := range []byte{0, 10, 13, 32, '0', '5', '9', 'A', 'M', 'Z', 'a', 'm', 'z', 127, 128, 255} {
			text := []byte(whole)
			text[a] = c
			wantParseFault(t, "may not be", string(text), edi.ErrSeparator, 0, 0)
		}
	}
}

// All bytes that may be separators are, each in each of the four places.
func TestP5_3SeparatorsThatMayBe(t *testing.T) {
	signs := "!\"#$%&'()*+,-./:;<=>?@[\\]^_`{|}~"
	i := one()
	i.Groups[0].Sets[0].Segments = []api.Segment{{Tag: "AB", Elems: []string{"x"}}}
	for n := range len(signs) {
		for turn := range 4 {
			l := make([]byte, 4)
			for k := range l {
				l[(k+turn)%4] = signs[(n+7*k)%len(signs)]
			}
			wantParsed(t, "signs", laid(i, string(l)), i)
		}
	}
}

func TestP5_3PartiesDaysTimesControls(t *testing.T) {
	for _, x := range []struct {
		from string
		to   string
		want func(i *api.Interchange)
	}{
		{"ZZ*A              *", "ZZ*ABCDEFGHIJ01234*", func(i *api.Interchange) { i.From = "ABCDEFGHIJ01234" }},
		{"ZZ*A              *", "ZZ*0              *", func(i *api.Interchange) { i.From = "0" }},
		{"ZZ*B              *", "ZZ*KLMNOPQRSTUVWXY*", func(i *api.Interchange) { i.To = "KLMNOPQRSTUVWXY" }},
		{"ZZ*B              *", "ZZ*Z9             *", func(i *api.Interchange) { i.To = "Z9" }},
		{"251231", "000229", func(i *api.Interchange) { i.Date = "000229" }},
		{"251231", "960229", func(i *api.Interchange) { i.Date = "960229" }},
		{"251231", "250101", func(i *api.Interchange) { i.Date = "250101" }},
		{"251231*2359", "251231*0000", func(i *api.Interchange) { i.Time = "0000" }},
		{"251231*2359", "251231*1959", func(i *api.Interchange) { i.Time = "1959" }},
		{"*P*", "*T*", func(i *api.Interchange) { i.Test = true }},
	} {
		want := one()
		x.want(&want)
		wantParsed(t, x.to, replaced(whole, x.from, x.to), want)
	}
	for _, n := range []int{1, 8, 10, 123456789, 100000000, 999999999} {
		want := one()
		want.Control = n
		wantParsed(t, "control", strings.ReplaceAll(whole, "000000007", nine(n)), want)
	}
}
