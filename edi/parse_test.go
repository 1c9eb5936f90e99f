package edi_test

import (
	"fmt"
	"math/rand"
	"slices"
	"strings"
	"testing"

	"larder/api"
	"larder/edi"
)

func TestP5_3Whole(t *testing.T) {
	wantParsed(t, "whole", whole, one())
	for _, ends := range []string{"\n", "\r", "\r\n", "\n\r", "\n\n\n", "\r\r\n\n"} {
		wantParsed(t, "with line ends", strings.ReplaceAll(whole, "~", "~"+ends), one())
		wantParsed(t, "with some at the end", whole+ends, one())
		wantParsed(t, "with some behind the head", head+ends+order+end, one())
		wantParsed(t, "with some ahead of the end", head+order+ends+end, one())
	}
	two := one()
	two.Groups = append(two.Groups, api.Group{Kind: "IB", From: "C", To: "D", Date: "19000229", Time: "0000", Control: 8, Sets: []api.Set{{Id: "846", Control: "0001"}, {Id: "846", Control: "000000001", Segments: []api.Segment{{Tag: "AB"}, {Tag: "Z9Z", Elems: []string{"", "", " x "}}}}}})
	wantParsed(t, "two groups", head+order+"GS*IB*C*D*19000229*0000*8*X*005010~ST*846*0001~SE*2*0001~ST*846*000000001~AB~Z9Z*** x ~SE*4*000000001~GE*2*8~IEA*2*000000007~", two)
}

func TestP5_3Tails(t *testing.T) {
	for _, tail := range []string{"x", " ", "~", "*", "\nX", "\r\n\r\n~", "\x00", "\t", "ISA", whole, "\n \n", "\n\x0b"} {
		wantParseFault(t, "tail", whole+tail, edi.ErrTail, 9, 0)
	}
}

func TestP5_3Cuts(t *testing.T) {
	for n := range len(whole) {
		if n < 106 {
			continue
		}
		number := strings.Count(whole[:n], "~")
		wantParseFault(t, "cut", whole[:n], edi.ErrShort, number, 0)
		wantParseFault(t, "cut with line ends", whole[:n]+"\r\n", edi.ErrShort, number, 0)
	}
	wantParseFault(t, "without its last terminator, whatever stands there", head+"!!!", edi.ErrShort, 1, 0)
	wantParseFault(t, "line ends alone", head+"\n\n", edi.ErrShort, 1, 0)
}

// Each tag behind each segment.
func TestP5_3Tags(t *testing.T) {
	after := []struct{ name, text, may string }{
		{"the head", head, " GS "},
		{"GS", head + "GS*PO*A*B*20251231*2359*7*X*005010~", " ST "},
		{"ST", head + "GS*PO*A*B*20251231*2359*7*X*005010~ST*850*0001~", " SE own "},
		{"its own", head + "GS*PO*A*B*20251231*2359*7*X*005010~ST*850*0001~AB~", " SE own "},
		{"SE", head + "GS*PO*A*B*20251231*2359*7*X*005010~ST*850*0001~SE*2*0001~", " ST GE "},
		{"GE", head + "GS*PO*A*B*20251231*2359*7*X*005010~ST*850*0001~SE*2*0001~GE*1*7~", " GS IEA "},
	}
	for _, a := range after {
		number := strings.Count(a.text, "~")
		for _, tag := range []string{"GS", "ST", "SE", "GE", "IEA", "ISA", "BEG", "AB", "Z0", "GS0", "STA", "SEE", "IE", "IS", "A00"} {
			own := len(tag) > 2 && tag != "ISA" && tag != "IEA" || tag == "AB" || tag == "Z0" || tag == "IE" || tag == "IS"
			may := strings.Contains(a.may, " "+tag+" ") || own && strings.Contains(a.may, "own")
			_, err := edi.Parse(a.text + tag + "~")
			if got := told(err) == (fault{edi.ErrTag, number, 0}); got == may {
				t.Errorf("%s behind %s: %v", tag, a.name, err)
			}
		}
		for _, tag := range []string{"", "A", "ABCD", "gs", "Gs", "gS", "1A", "A-", " GS", "GS ", "A B", "\x00A", "A\n", "AB\n", "A\nB", "SE\r", "É", "0", "00", "000", "a00", "ST:", "S^T", "[A", "@A", "A@", "A["} {
			wantParseFault(t, "no tag", a.text+tag+"~", edi.ErrTag, number, 0)
			wantParseFault(t, "no tag", a.text+tag+"*1~", edi.ErrTag, number, 0)
		}
	}
}

// Every byte in each place of a tag, and as the tag of two or three.
func TestP5_3EveryByteInATag(t *testing.T) {
	for c := range 256 {
		x := string([]byte{byte(c)})
		for _, tag := range []string{x, x + "A", x + "AB", "A" + x, "A" + x + "B", "AB" + x, "ABC" + x, x + "S", "G" + x, "IE" + x} {
			wantAsSlow(t, replaced(whole, "BEG", tag))
			wantAsSlow(t, replaced(whole, "GS", tag))
			wantAsSlow(t, replaced(whole, "SE", tag))
		}
	}
}

func inSet(elems string) string {
	return head + "GS*PO*A*B*20251231*2359*7*X*005010~ST*850*0001~AB" + elems + "~SE*3*0001~GE*1*7~" + end
}

func TestP5_3Elements(t *testing.T) {
	full, long := strings.Repeat("x", 80), strings.Repeat("x", 81)
	for _, x := range []struct {
		elems string
		wrong int
	}{
		{"", 0}, {"*x", 0}, {"**x", 0}, {"*", 1}, {"**", 2}, {"*x*", 2}, {"*x*y**", 4},
		{strings.Repeat("*x", 32), 0}, {strings.Repeat("*x", 33), 33}, {strings.Repeat("*x", 34), 33}, {strings.Repeat("*", 31) + "*x", 0}, {strings.Repeat("*", 32), 32}, {strings.Repeat("*", 33), 33}, {strings.Repeat("*", 500), 33},
		{"*\n" + strings.Repeat("*x", 31), 1}, {"*\n" + strings.Repeat("*x", 32), 33},
		{"*" + full, 0}, {"*" + long, 1}, {"*" + full + "*" + long + "*" + long, 2}, {"*" + long + "*", 1}, {strings.Repeat("*"+full, 32), 0}, {strings.Repeat("*"+full, 31) + "*" + long, 32},
		{"*x^y", 1}, {"*x*:", 2}, {"*^", 1}, {"* ", 0}, {"*x\n", 1}, {"*\r\n", 1}, {"*x*\x1f*:", 2}, {"*x*\x7f", 2}, {"*é", 1}, {"*x*y\x00z*w", 2},
	} {
		if x.wrong > 0 {
			wantParseFault(t, "elements", inSet(x.elems), edi.ErrElement, 3, x.wrong)
			continue
		}
		want := one()
		want.Groups[0].Sets[0].Segments = segments("AB" + x.elems + "~")
		wantParsed(t, "elements", inSet(x.elems), want)
	}
}

func TestP5_3EveryByteInAnElement(t *testing.T) {
	for c := range 256 {
		x := string([]byte{byte(c)})
		for _, e := range []string{x, "a" + x, x + "a", "a" + x + "b"} {
			wantAsSlow(t, inSet("*1*"+e+"*2"))
			wantAsSlow(t, inSet("*"+e))
		}
	}
}

// changed tries texts in the place of one part of the interchange.
func changed(t *testing.T, from string, err error, segment, element int, texts ...string) {
	t.Helper()
	for _, to := range texts {
		wantParseFault(t, from, replaced(whole, from, to), err, segment, element)
	}
}

func TestP5_3EnvelopesMissingAndTooMany(t *testing.T) {
	gs := "GS*PO*A*B*20251231*2359*7*X*005010"
	for n := range 8 {
		parts := strings.Split(gs, "*")
		changed(t, gs, edi.ErrElement, 1, n+1, strings.Join(parts[:n+1], "*"))
	}
	changed(t, gs, edi.ErrElement, 1, 9, gs+"*1", gs+"*1*1*1", gs+strings.Repeat("*1", 24), gs+"*")
	changed(t, gs, edi.ErrElement, 1, 33, gs+strings.Repeat("*1", 25))
	changed(t, gs, edi.ErrElement, 1, 11, gs+"***")
	changed(t, gs, edi.ErrElement, 1, 9, replaced(gs, "PO", "XX")+"*1")
	changed(t, gs, edi.ErrElement, 1, 10, replaced(gs, "PO", "XX")+"*1*^")
	for _, x := range []struct {
		from    string
		segment int
	}{{"ST*850*0001", 2}, {"SE*5*0001", 6}, {"GE*1*7", 7}, {"IEA*1*000000007", 8}} {
		parts := strings.Split(x.from, "*")
		changed(t, x.from, edi.ErrElement, x.segment, 1, parts[0])
		changed(t, x.from, edi.ErrElement, x.segment, 2, parts[0]+"*"+parts[1], parts[0]+"*9999", parts[0]+"**", parts[0]+"*999*:")
		changed(t, x.from, edi.ErrElement, x.segment, 3, x.from+"*1", x.from+"*1*1", parts[0]+"*9*9*9", x.from+"*")
		changed(t, x.from, edi.ErrElement, x.segment, 1, parts[0]+"*", parts[0]+"*^*1")
	}
}

func TestP5_3Groups(t *testing.T) {
	changed(t, "GS*PO*", edi.ErrElement, 1, 1, "GS*XX*", "GS*po*", "GS*P*", "GS**", "GS*PO *", "GS*850*", "GS*POO*", "GS*BI*")
	wrong := []string{"", " ", "a", "A ", " A", "A-", "ABCDEFGHIJ012345", "A B", "Z{", "@"}
	for _, w := range wrong {
		changed(t, "*A*B*2025", edi.ErrElement, 1, 2, "*"+w+"*B*2025", "*"+w+"**2025")
		changed(t, "*A*B*2025", edi.ErrElement, 1, 3, "*A*"+w+"*2025")
	}
	for _, day := range []string{"", "251231", "2025123", "202512311", "20251301", "20250001", "20250100", "20250132", "20250229", "20010229", "19010229", "20240230", "2025123x", "x0251231", "2x251231", " 0251231", "+0251231", "-0251231", "20251200", "2O251231"} {
		changed(t, "*20251231*2359*7", edi.ErrElement, 1, 4, "*"+day+"*2359*7")
	}
	for _, time := range []string{"", "235", "23599", "2360", "2400", "1260", "0099", "a000", "000a", " 100", "-100", "9959"} {
		changed(t, "*20251231*2359*7", edi.ErrElement, 1, 5, "*20251231*"+time+"*7")
	}
	for _, control := range []string{"", "0", "07", "000000007", "-7", "+7", "7 ", " 7", "7.0", "1000000000", "9999999999", "99999999999999999999", "x", "0x7", "1_0"} {
		changed(t, "*2359*7*X", edi.ErrElement, 1, 6, "*2359*"+control+"*X")
	}
	changed(t, "*X*005010", edi.ErrElement, 1, 7, "*x*005010", "**005010", "*T*005010", "*XX*005010", "*T*1")
	changed(t, "*X*005010", edi.ErrElement, 1, 8, "*X*5010", "*X*005011", "*X*00501", "*X*0050100", "*X*005010X")
}

func TestP5_3GroupsThatMayBe(t *testing.T) {
	for _, x := range []struct {
		from, to string
		want     func(g *api.Group)
	}{
		{"*A*B*2025", "*ABCDEFGHIJ01234*B*2025", func(g *api.Group) { g.From = "ABCDEFGHIJ01234" }},
		{"*A*B*2025", "*A*Z9*2025", func(g *api.Group) { g.To = "Z9" }},
		{"*20251231*", "*20000229*", func(g *api.Group) { g.Date = "20000229" }},
		{"*20251231*", "*21000229*", func(g *api.Group) { g.Date = "21000229" }},
		{"*20251231*", "*00000101*", func(g *api.Group) { g.Date = "00000101" }},
		{"*20251231*", "*99991231*", func(g *api.Group) { g.Date = "99991231" }},
		{"1231*2359*7*", "1231*0000*7*", func(g *api.Group) { g.Time = "0000" }},
		{"1231*2359*7*", "1231*1059*7*", func(g *api.Group) { g.Time = "1059" }},
	} {
		want := one()
		x.want(&want.Groups[0])
		wantParsed(t, x.to, replaced(whole, x.from, x.to), want)
	}
	for _, n := range []int{1, 10, 999999999} {
		want := one()
		want.Groups[0].Control = n
		wantParsed(t, "control", strings.NewReplacer("*7*X", fmt.Sprintf("*%d*X", n), "GE*1*7", fmt.Sprintf("GE*1*%d", n)).Replace(whole), want)
	}
}

func TestP5_3Sets(t *testing.T) {
	changed(t, "ST*850*", edi.ErrSet, 2, 1, "ST*846*", "ST*997*", "ST*85*", "ST*8500*", "ST**", "ST*PO*", "ST*850 *")
	for kind, id := range map[string]string{"PO": "850", "IB": "846", "FA": "997"} {
		for _, other := range []string{"850", "846", "997"} {
			text := replaced(replaced(whole, "GS*PO", "GS*"+kind), "ST*850", "ST*"+other)
			if other != id {
				wantParseFault(t, kind, text, edi.ErrSet, 2, 1)
				continue
			}
			want := one()
			want.Groups[0].Kind, want.Groups[0].Sets[0].Id = kind, id
			wantParsed(t, kind, text, want)
		}
	}
	changed(t, "ST*850*0001", edi.ErrElement, 2, 2, "ST*850*001", "ST*850*0000000001", "ST*850*000x", "ST*850*-001", "ST*850*+001", "ST*850* 001", "ST*850*1")
	changed(t, "ST*850*0001", edi.ErrSet, 2, 1, "ST*851*1")
	for _, control := range []string{"0000", "00001", "123456789", "000000000"} {
		want := one()
		want.Groups[0].Sets[0].Control = control
		wantParsed(t, control, strings.ReplaceAll(whole, "*0001~", "*"+control+"~"), want)
	}
}

func TestP5_3CountsAndControls(t *testing.T) {
	for _, n := range []string{"4", "6", "0", "3", "05", "-5", "+5", "5 ", " 5", "5.0", "x", "50", "99999999999999999999999"} {
		changed(t, "SE*5*", edi.ErrCount, 6, 1, "SE*"+n+"*")
		changed(t, "SE*5*0001", edi.ErrCount, 6, 1, "SE*"+n+"*0002")
	}
	changed(t, "SE*5*", edi.ErrCount, 6, 1, "SE**")
	changed(t, "SE*5*0001", edi.ErrControl, 6, 2, "SE*5*0002", "SE*5*1", "SE*5*00001", "SE*5*001", "SE*5*x")
	for _, n := range []string{"0", "2", "01", "-1", "+1", "x", "11"} {
		changed(t, "GE*1*7", edi.ErrCount, 7, 1, "GE*"+n+"*7", "GE*"+n+"*8")
		changed(t, "IEA*1*000000007", edi.ErrCount, 8, 1, "IEA*"+n+"*000000007", "IEA*"+n+"*8")
	}
	changed(t, "GE*1*7", edi.ErrControl, 7, 2, "GE*1*8", "GE*1*07", "GE*1*000000007", "GE*1*77", "GE*1*x", "GE*1*-7")
	changed(t, "IEA*1*000000007", edi.ErrControl, 8, 2, "IEA*1*7", "IEA*1*000000008", "IEA*1*0000000007", "IEA*1*00000007", "IEA*1*x", "IEA*1*+00000007")
}

func TestP5_3WhatComesTwice(t *testing.T) {
	group := func(kind string, control int, sets ...string) string {
		text := fmt.Sprintf("GS*%s*A*B*20251231*2359*%d*X*005010~", kind, control)
		for _, s := range sets {
			text += fmt.Sprintf("ST*%s*%s~SE*2*%s~", idOf(kind), s, s)
		}
		return text + fmt.Sprintf("GE*%d*%d~", len(sets), control)
	}
	closed := func(groups ...string) string {
		return head + strings.Join(groups, "") + fmt.Sprintf("IEA*%d*000000007~", len(groups))
	}
	for _, x := range []struct {
		text             string
		err              error
		segment, element int
	}{
		{closed(group("PO", 1, "0001"), group("PO", 1, "0001")), edi.ErrControl, 5, 6},
		{closed(group("PO", 1, "0001"), group("IB", 1, "0001")), edi.ErrControl, 5, 6},
		{closed(group("PO", 1, "0001"), group("PO", 2, "0001"), group("FA", 1, "0001")), edi.ErrControl, 9, 6},
		{closed(group("PO", 1, "0001", "0002", "0001")), edi.ErrControl, 6, 2},
		{closed(group("PO", 1, "0001", "0001")), edi.ErrControl, 4, 2},
		{closed(group("PO", 1, "0001"), group("PO", 2, "0001", "0001")), edi.ErrControl, 8, 2},
		{closed(group("PO", 1, "0001"), replaced(group("PO", 1, "0001"), "*X*", "*Y*")), edi.ErrControl, 5, 6},
		{closed(group("PO", 1, "0001"), replaced(group("PO", 1, "0001"), "*2359*", "*2360*")), edi.ErrElement, 5, 5},
		{closed(group("PO", 1, "0001"), replaced(group("PO", 1, "0001"), "*X*", "*X*1*")), edi.ErrElement, 5, 9},
	} {
		wantParseFault(t, "twice", x.text, x.err, x.segment, x.element)
	}
	for _, text := range []string{
		closed(group("PO", 1, "0001"), group("PO", 10, "0001"), group("PO", 11, "0001")),
		closed(group("PO", 7, "0001", "00001", "000001", "1000")),
	} {
		want, f := parseSlowly(text)
		if f != (fault{}) {
			t.Fatal(f)
		}
		wantParsed(t, "unlike", text, want)
	}
}

func TestP5_3LongTexts(t *testing.T) {
	fill := 65536 - len(whole)
	wantParsed(t, "full of line ends", whole+strings.Repeat("\n", fill), one())
	wantParseFault(t, "one more", whole+strings.Repeat("\n", fill+1), edi.ErrLong, 0, 0)
	wantParsed(t, "full of line ends within", head+strings.Repeat("\r", fill)+order+end, one())
	wantParseFault(t, "a fault at the end", whole+strings.Repeat("\n", fill-1)+"x", edi.ErrTail, 9, 0)
	many := one()
	many.Groups[0].Sets = nil
	for n := range 2500 {
		many.Groups[0].Sets = append(many.Groups[0].Sets, api.Set{Id: "850", Control: fmt.Sprintf("%04d", n)})
	}
	wantParsed(t, "many sets", laid(many, usual), many)
	many = one()
	many.Groups[0].Sets[0].Segments = slices.Repeat([]api.Segment{{Tag: "AB"}}, 21000)
	wantParsed(t, "many segments", laid(many, usual), many)
	many.Groups = nil
	for n := range 900 {
		many.Groups = append(many.Groups, api.Group{Kind: "FA", From: "A", To: "B", Date: "20250101", Time: "0000", Control: n + 1, Sets: []api.Set{{Id: "997", Control: "0001"}}})
	}
	wantParsed(t, "many groups", laid(many, usual), many)
	wantParseFault(t, "many elements", head+"GS"+strings.Repeat("*", 60000)+"~", edi.ErrElement, 1, 33)
}

// spoil changes a text at a place of chance.
func spoil(r *rand.Rand, text string) string {
	at := r.Intn(len(text))
	if r.Intn(4) > 0 && len(text) > 106 {
		at = 106 + r.Intn(len(text)-106)
	}
	byChance := pick(r, "*", "~", "^", ":", "\n", "\r", "0", "1", "7", "A", "x", " ", "**", "~~", "*1", "\x00", "ST", "SE*2*0001~", "GE*1*7~", "IEA*1*000000007~", "AB~", "ST*850*0001~")
	switch r.Intn(5) {
	case 0:
		return text[:at] + text[at+1:]
	case 1:
		return text[:at] + byChance + text[at:]
	case 2:
		return text[:at] + byChance + text[at+1:]
	case 3: // a segment goes
		to := strings.IndexByte(text[at:], '~')
		from := strings.LastIndexByte(text[:at], '~')
		return text[:from+1] + text[at+to+1:]
	default: // a segment comes twice
		to := at + strings.IndexByte(text[at:], '~') + 1
		from := strings.LastIndexByte(text[:at], '~') + 1
		return text[:to] + text[from:to] + text[to:]
	}
}

func TestP5_3SpoiltTexts(t *testing.T) {
	r := rand.New(rand.NewSource(53))
	for range 30000 {
		text := laid(some(r, usual), usual)
		for range 1 + r.Intn(2) {
			text = spoil(r, text)
			if len(text) == 0 || !strings.Contains(text, "~") {
				break
			}
		}
		wantAsSlow(t, text)
		if t.Failed() {
			return
		}
	}
}
