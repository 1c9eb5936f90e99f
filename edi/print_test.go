package edi_test

import (
	"math"
	"math/rand"
	"slices"
	"strings"
	"testing"

	"larder/api"
	"larder/edi"
)

// printSlowly lays the text down, asks the slow reader, and compares.
func printSlowly(i api.Interchange) (string, fault) {
	text := laid(i, usual)
	back, f := parseSlowly(text)
	if f != (fault{}) {
		return "", f
	}
	if !equal(back, i) {
		return "", fault{edi.ErrElement, 0, 0}
	}
	return text, f
}

func wantPrinted(t *testing.T, name string, i api.Interchange) {
	t.Helper()
	want, f := printSlowly(i)
	if got, err := edi.Print(i); got != want || told(err) != f {
		t.Errorf("%s: Print(%+v): %s, %v, want %s, %v", name, i, short(got), told(err), short(want), f)
	}
}

func wantPrintFault(t *testing.T, name string, change func(i *api.Interchange), err error, segment, element int) {
	t.Helper()
	i := one()
	change(&i)
	text, e := edi.Print(i)
	if want := (fault{err, segment, element}); text != "" || told(e) != want {
		t.Errorf("%s: %s, %v, want %v", name, short(text), told(e), want)
	}
	wantPrinted(t, name, i)
}

func TestP5_2Texts(t *testing.T) {
	if text, err := edi.Print(one()); text != whole || err != nil {
		t.Errorf("%s, %v", short(text), err)
	}
	r := rand.New(rand.NewSource(52))
	for range 2000 {
		i := some(r, usual)
		if text, err := edi.Print(i); text != laid(i, usual) || err != nil {
			t.Fatalf("%s, %v", short(text), err)
		}
		wantPrinted(t, "chance", i)
	}
}

func TestP5_2Heads(t *testing.T) {
	for _, x := range []struct {
		name    string
		change  func(i *api.Interchange)
		err     error
		element int
	}{
		{"From empty", func(i *api.Interchange) { i.From = "" }, edi.ErrElement, 6},
		{"From small", func(i *api.Interchange) { i.From = "a" }, edi.ErrElement, 6},
		{"From with a blank behind", func(i *api.Interchange) { i.From = "A " }, edi.ErrElement, 0},
		{"From with blanks behind", func(i *api.Interchange) { i.From = "A              " }, edi.ErrElement, 0},
		{"From with a blank ahead", func(i *api.Interchange) { i.From = " A" }, edi.ErrElement, 6},
		{"From too long", func(i *api.Interchange) { i.From = "ABCDEFGHIJ012345" }, edi.ErrSeparator, 0},
		{"To empty", func(i *api.Interchange) { i.To = "" }, edi.ErrElement, 8},
		{"To with a blank behind", func(i *api.Interchange) { i.To = "B " }, edi.ErrElement, 0},
		{"Date wrong", func(i *api.Interchange) { i.Date = "250229" }, edi.ErrElement, 9},
		{"Date without a day", func(i *api.Interchange) { i.Date = "250200" }, edi.ErrElement, 9},
		{"Date empty", func(i *api.Interchange) { i.Date = "" }, edi.ErrSeparator, 0},
		{"Date with a separator", func(i *api.Interchange) { i.Date = "25123*" }, edi.ErrElement, 9},
		{"Date long", func(i *api.Interchange) { i.Date = "20251231" }, edi.ErrSeparator, 0},
		{"Time wrong", func(i *api.Interchange) { i.Time = "2360" }, edi.ErrElement, 10},
		{"Time over", func(i *api.Interchange) { i.Time = "2400" }, edi.ErrElement, 10},
		{"Date and Time displaced", func(i *api.Interchange) { i.Date, i.Time = "2512310", "359" }, edi.ErrHead, 10},
		{"Control 0", func(i *api.Interchange) { i.Control = 0 }, edi.ErrElement, 13},
		{"Control -1", func(i *api.Interchange) { i.Control = -1 }, edi.ErrElement, 13},
		{"Control -12345678", func(i *api.Interchange) { i.Control = -12345678 }, edi.ErrElement, 13},
		{"Control too great", func(i *api.Interchange) { i.Control = 1000000000 }, edi.ErrSeparator, 0},
		{"Control greatest", func(i *api.Interchange) { i.Control = math.MaxInt }, edi.ErrSeparator, 0},
		{"Control lowest", func(i *api.Interchange) { i.Control = math.MinInt }, edi.ErrSeparator, 0},
		{"all zero", func(i *api.Interchange) { *i = api.Interchange{} }, edi.ErrSeparator, 0},
	} {
		wantPrintFault(t, x.name, x.change, x.err, 0, x.element)
	}
}

func TestP5_2Bodies(t *testing.T) {
	group := func(change func(g *api.Group)) func(i *api.Interchange) {
		return func(i *api.Interchange) { change(&i.Groups[0]) }
	}
	set := func(change func(s *api.Set)) func(i *api.Interchange) {
		return func(i *api.Interchange) { change(&i.Groups[0].Sets[0]) }
	}
	for _, x := range []struct {
		name             string
		change           func(i *api.Interchange)
		err              error
		segment, element int
	}{
		{"no groups", func(i *api.Interchange) { i.Groups = nil }, edi.ErrTag, 1, 0},
		{"no sets", group(func(g *api.Group) { g.Sets = []api.Set{} }), edi.ErrTag, 2, 0},
		{"Kind", group(func(g *api.Group) { g.Kind = "XX" }), edi.ErrElement, 1, 1},
		{"Kind empty", group(func(g *api.Group) { g.Kind = "" }), edi.ErrElement, 1, 1},
		{"another Kind", group(func(g *api.Group) { g.Kind = "IB" }), edi.ErrSet, 2, 1},
		{"group's From", group(func(g *api.Group) { g.From = "A " }), edi.ErrElement, 1, 2},
		{"group's To", group(func(g *api.Group) { g.To = "" }), edi.ErrElement, 1, 3},
		{"group's Date", group(func(g *api.Group) { g.Date = "251231" }), edi.ErrElement, 1, 4},
		{"group's Time", group(func(g *api.Group) { g.Time = "2400" }), edi.ErrElement, 1, 5},
		{"group's Control 0", group(func(g *api.Group) { g.Control = 0 }), edi.ErrElement, 1, 6},
		{"group's Control -1", group(func(g *api.Group) { g.Control = -1 }), edi.ErrElement, 1, 6},
		{"group's Control too great", group(func(g *api.Group) { g.Control = 1000000000 }), edi.ErrElement, 1, 6},
		{"group's Control lowest", group(func(g *api.Group) { g.Control = math.MinInt }), edi.ErrElement, 1, 6},
		{"Kind with a separator", group(func(g *api.Group) { g.Kind = "PO*A" }), edi.ErrElement, 1, 9},
		{"Id", set(func(s *api.Set) { s.Id = "997" }), edi.ErrSet, 2, 1},
		{"set's Control", set(func(s *api.Set) { s.Control = "001" }), edi.ErrElement, 2, 2},
		{"set's Control with a separator", set(func(s *api.Set) { s.Control = "0001*" }), edi.ErrElement, 2, 3},
		{"set's Control with an end", set(func(s *api.Set) { s.Control = "0001~AB" }), edi.ErrCount, 7, 1},
		{"Tag", set(func(s *api.Set) { s.Segments[0].Tag = "beg" }), edi.ErrTag, 3, 0},
		{"Tag empty", set(func(s *api.Set) { s.Segments[1].Tag = "" }), edi.ErrTag, 4, 0},
		{"Tag of an envelope", set(func(s *api.Set) { s.Segments[1].Tag = "GS" }), edi.ErrTag, 4, 0},
		{"Tag of a head", set(func(s *api.Set) { s.Segments[1].Tag = "ISA" }), edi.ErrTag, 4, 0},
		{"SE within", set(func(s *api.Set) { s.Segments[1] = api.Segment{Tag: "SE", Elems: []string{"5", "0001"}} }), edi.ErrCount, 4, 1},
		{"Tag with a line end", set(func(s *api.Set) { s.Segments[1].Tag = "\nPO1" }), edi.ErrElement, 0, 0},
		{"Tag with a separator", set(func(s *api.Set) { s.Segments[1].Tag = "PO1*7" }), edi.ErrElement, 0, 0},
		{"Tag with an end", set(func(s *api.Set) { s.Segments[1].Tag = "PO1~PO1" }), edi.ErrCount, 7, 1},
		{"an element with a separator", set(func(s *api.Set) { s.Segments[0].Elems[2] = "a*b" }), edi.ErrElement, 0, 0},
		{"an element with a separator at its end", set(func(s *api.Set) { s.Segments[2].Elems[1] = "5*" }), edi.ErrElement, 5, 3},
		{"an element of separators", set(func(s *api.Set) { s.Segments[0].Elems[2] = strings.Repeat("*", 32) }), edi.ErrElement, 3, 33},
		{"an element with a repetition", set(func(s *api.Set) { s.Segments[0].Elems[2] = "a^b" }), edi.ErrElement, 3, 3},
		{"an element with a component", set(func(s *api.Set) { s.Segments[0].Elems[2] = "a:b" }), edi.ErrElement, 3, 3},
		{"an element with an end", set(func(s *api.Set) { s.Segments[0].Elems[2] = "a~AB" }), edi.ErrCount, 7, 1},
		{"an element with ends that add up", set(func(s *api.Set) {
			s.Segments = []api.Segment{{Tag: "AB", Elems: []string{"1~SE*3*0001~ST*850*0002~AB"}}}
		}), edi.ErrControl, 7, 2},
		{"an element with an odd byte", set(func(s *api.Set) { s.Segments[0].Elems[2] = "a\nb" }), edi.ErrElement, 3, 3},
		{"an element too long", set(func(s *api.Set) { s.Segments[0].Elems[2] = strings.Repeat("x", 81) }), edi.ErrElement, 3, 3},
		{"an empty last element", set(func(s *api.Set) { s.Segments[0].Elems[4] = "" }), edi.ErrElement, 3, 5},
		{"one element, empty", set(func(s *api.Set) { s.Segments[0].Elems = []string{""} }), edi.ErrElement, 3, 1},
		{"33 elements", set(func(s *api.Set) { s.Segments[0].Elems = slices.Repeat([]string{"x"}, 33) }), edi.ErrElement, 3, 33},
		{"groups' Controls alike", func(i *api.Interchange) { i.Groups = append(i.Groups, i.Groups[0]) }, edi.ErrControl, 8, 6},
		{"sets' Controls alike", group(func(g *api.Group) { g.Sets = append(g.Sets, g.Sets[0]) }), edi.ErrControl, 7, 2},
		{"head ahead of body", func(i *api.Interchange) { i.Time = "2400"; i.Groups = nil }, edi.ErrElement, 0, 10},
	} {
		wantPrintFault(t, x.name, x.change, x.err, x.segment, x.element)
	}
}

func TestP5_2WhatMayBe(t *testing.T) {
	i := one()
	i.Test, i.Control, i.From = true, 999999999, "ABCDEFGHIJ01234"
	s := &i.Groups[0].Sets[0]
	s.Segments = []api.Segment{{Tag: "AB"}, {Tag: "AB", Elems: []string{}}, {Tag: "A1", Elems: slices.Repeat([]string{strings.Repeat("x", 80)}, 32)}, {Tag: "AB", Elems: []string{"", "", " "}}}
	text, err := edi.Print(i)
	if err != nil || text != laid(i, usual) {
		t.Errorf("%s, %v", short(text), err)
	}
	s.Segments = nil
	if text, err := edi.Print(i); err != nil || text != laid(i, usual) {
		t.Errorf("%s, %v", short(text), err)
	}
}

func TestP5_2LongTexts(t *testing.T) {
	i := one()
	s := &i.Groups[0].Sets[0]
	s.Segments = slices.Repeat([]api.Segment{{Tag: "AB", Elems: []string{strings.Repeat("x", 6)}}}, 6500) // ten bytes each
	left := 65536 - len(laid(i, usual))
	for left >= 10 {
		s.Segments = append(s.Segments, s.Segments[0])
		left = 65536 - len(laid(i, usual))
	}
	s.Segments[0].Elems = []string{strings.Repeat("x", 6+left)}
	text, err := edi.Print(i)
	if err != nil || len(text) != 65536 || text != laid(i, usual) {
		t.Fatalf("just so: %s, %v", short(text), err)
	}
	last := len(s.Segments) - 1
	for _, x := range []func(i *api.Interchange){
		func(i *api.Interchange) { s.Segments[last].Elems = []string{strings.Repeat("x", 7)} },
		func(i *api.Interchange) { s.Segments[0].Tag = "beg!" },
		func(i *api.Interchange) { i.From, i.Control = "abcdefghij012345", -1 },
		func(i *api.Interchange) { s.Segments = append(s.Segments, api.Segment{}) },
	} {
		i := i
		kept := slices.Clone(s.Segments)
		x(&i)
		text, err := edi.Print(i)
		if text != "" || told(err) != (fault{edi.ErrLong, 0, 0}) {
			t.Errorf("one more: %s, %v", short(text), err)
		}
		s.Segments = kept
	}
	vast := strings.Repeat("x", 1<<20)
	s.Segments = slices.Repeat([]api.Segment{{Tag: vast, Elems: slices.Repeat([]string{vast}, 1000)}}, 1000) // a text of 2^40 bytes, were it laid down
	text, err = edi.Print(i)
	if text != "" || told(err) != (fault{edi.ErrLong, 0, 0}) {
		t.Errorf("vast: %s, %v", short(text), err)
	}
}

// spoilWhole changes something in an interchange.
func spoilWhole(r *rand.Rand, i *api.Interchange) {
	odd := pick(r, "", " ", "*", "~", "^", ":", "A", "a", "A ", "\nAB", "AB", "0001", "1*2", "x~AB", "AB*1", "850", "846", "PO", "IB", "20240229", "1234", "SE*3*0001", "\r")
	control := pick(r, 0, -1, 1, 2, 1000000000, math.MinInt, math.MaxInt)
	g := &i.Groups[r.Intn(len(i.Groups))]
	s := &g.Sets[r.Intn(len(g.Sets))]
	switch r.Intn(14) {
	case 0:
		i.From = odd
	case 1:
		i.To = odd
	case 2:
		i.Date = odd
	case 3:
		i.Control = control
	case 4:
		g.Kind = odd
	case 5:
		g.From = odd
	case 6:
		g.Time = odd
	case 7:
		g.Control = control
	case 8:
		s.Id = odd
	case 9:
		s.Control = odd
	case 10:
		s.Control = pick(r, odd+s.Control, s.Control+odd)
	default:
		if len(s.Segments) > 0 {
			x := &s.Segments[r.Intn(len(s.Segments))]
			if len(x.Elems) == 0 || r.Intn(3) == 0 {
				x.Tag = pick(r, odd, odd+x.Tag, x.Tag+odd)
			} else {
				e := &x.Elems[r.Intn(len(x.Elems))]
				*e = pick(r, odd, odd+*e, *e+odd)
			}
		}
	}
}

func TestP5_2SpoiltInterchanges(t *testing.T) {
	r := rand.New(rand.NewSource(57))
	for range 10000 {
		i := some(r, usual)
		for range 1 + r.Intn(2) {
			spoilWhole(r, &i)
		}
		wantPrinted(t, "spoilt", i)
		if t.Failed() {
			return
		}
	}
}

func TestP5_4ThereAndBack(t *testing.T) {
	r := rand.New(rand.NewSource(54))
	signs := "!\"#$%&'()+,-./;<=>?@[\\]_`{|}"
	for range 3000 {
		k := r.Perm(len(signs))
		marks := string([]byte{signs[k[0]], signs[k[1]], signs[k[2]], signs[k[3]]})
		i := some(r, usual+marks)
		text, err := edi.Print(i)
		if err != nil {
			t.Fatalf("Print: %v", err)
		}
		wantParsed(t, "there and back", text, i)
		other := laid(i, marks)
		wantParsed(t, "with other separators", other, i)
		if again, err := edi.Print(parsed(t, other)); err != nil || again != text {
			t.Fatalf("again: %s, %v, want %s", short(again), err, short(text))
		}
	}
}

func TestP5_4ElementsWithTheUsualSeparators(t *testing.T) {
	r := rand.New(rand.NewSource(58))
	for range 3000 {
		i := some(r, "|!>'")
		wantParsed(t, "other separators", laid(i, "|!>'"), i)
		wantPrinted(t, "the usual ones", i)
	}
}
