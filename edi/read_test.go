package edi_test

import (
	"fmt"
	"math/rand"
	"slices"
	"strings"
	"testing"

	"larder/api"
	"larder/edi"
)

// wantReadFault reads the segments of a text as the document that its first tag says.
func wantReadFault(t *testing.T, text string, err error, segment, element int) {
	t.Helper()
	s := api.Set{Segments: segments(text)}
	var got error
	switch text[:3] {
	case "BEG":
		s.Id = "850"
		_, got = edi.ReadOrder(s)
	case "BIA":
		s.Id = "846"
		_, got = edi.ReadAdvice(s)
	default:
		s.Id = "997"
		_, got = edi.ReadAck(s)
	}
	wantFault(t, short(text), got, fault{err, segment, element})
	wantReads(t, s)
}

// instead tries texts in the place of one part of a document.
func instead(t *testing.T, text, from string, err error, segment, element int, texts ...string) {
	t.Helper()
	for _, to := range texts {
		wantReadFault(t, replaced(text, from, to), err, segment, element)
	}
}

func papers() map[string]string { return map[string]string{"850": lines, "846": stock, "997": answer} }

func TestP5_5Documents(t *testing.T) {
	o, err := edi.ReadOrder(api.Set{Id: "850", Segments: segments(lines)})
	if want := (api.Order{Number: "N-1", Date: "20251231", Lines: []api.OrderLine{{Qty: 5, Cents: 250, Code: "6291041500213"}}}); err != nil || !equal(o, want) {
		t.Errorf("%+v, %v", o, err)
	}
	a, err := edi.ReadAdvice(api.Set{Id: "846", Segments: segments(stock)})
	if want := (api.Advice{Number: "A", Date: "20240229", Lines: []api.AdviceLine{{Code: "036000291452", OnHand: 9, Free: 3}}}); err != nil || !equal(a, want) {
		t.Errorf("%+v, %v", a, err)
	}
	k, err := edi.ReadAck(api.Set{Id: "997", Segments: segments(answer)})
	if want := (api.Ack{Kind: "PO", Control: 7, Sets: []api.AckSet{{Id: "850", Control: "0001", Ok: true}, {Id: "850", Control: "0002", Segment: 2, Element: 2}}}); err != nil || !equal(k, want) {
		t.Errorf("%+v, %v", k, err)
	}
}

func TestP5_5Ids(t *testing.T) {
	for _, text := range papers() {
		for _, id := range []string{"850", "846", "997", "", "85", "8500", "PO", " 850", "85O"} {
			for _, control := range []string{"", "0001", "x"} {
				wantReads(t, api.Set{Id: id, Control: control, Segments: segments(text)})
			}
		}
	}
	for id := range papers() {
		for _, l := range [][]api.Segment{nil, {}, {{}}, {{Tag: "BEG"}, {}}} {
			wantReads(t, api.Set{Id: id, Segments: l})
		}
	}
	_, err := edi.ReadOrder(api.Set{Id: "846"})
	wantFault(t, "an Id ahead of all", err, fault{edi.ErrSet, 0, 0})
	_, err = edi.ReadOrder(api.Set{Id: "850"})
	wantFault(t, "nothing", err, fault{edi.ErrTag, 0, 0})
	_, err = edi.ReadOrder(api.Set{Id: "850", Control: "not looked at", Segments: segments(lines)})
	wantFault(t, "Control", err, fault{})
}

// All sequences of tags up to seven segments: each segment with elements that are right there, if the tag may come.
func TestP5_5Sequences(t *testing.T) {
	for _, p := range []paper{orders(), advices(), acks()} {
		var tags []string
		for _, x := range strings.Fields(p.tags) {
			tags = append(tags, x[:3])
		}
		var more func(l []api.Segment)
		more = func(l []api.Segment) {
			wantReads(t, api.Set{Id: p.id, Segments: l})
			if len(l) == 7 || len(l) > 0 && !fits(p.begun, p.letters(l)) {
				return
			}
			for _, tag := range append(slices.Clone(tags), "ZZ1", "") {
				more(append(slices.Clone(l), rightSegment(l, tag)))
			}
		}
		more(nil)
	}
}

// rightSegment has the elements that a segment with this tag must have behind those, where it may come.
func rightSegment(l []api.Segment, tag string) api.Segment {
	texts := map[string]string{
		"BEG": "00*SA*N**20250101", "PO1": fmt.Sprintf("%d*2*EA*1.00**EO*12345670", count(l, "PO1")+1), "BIA": "00*SI*N*20250101", "LIN": fmt.Sprintf("%d*EO*12345670", count(l, "LIN")+1),
		"QTY": fmt.Sprintf("%d*4*EA", 17+16*(count(l, "QTY")%2)), "AK1": "IB*9", "AK2": fmt.Sprintf("846*%04d", len(l)), "AK3": "2*0", "AK5": "A",
	}
	if len(l) > 0 && l[len(l)-1].Tag == "AK3" {
		texts["AK5"] = "R"
	}
	texts["CTT"] = fmt.Sprintf("%d", count(l, "LIN"))
	if len(l) > 0 && l[0].Tag == "BEG" {
		texts["CTT"] = fmt.Sprintf("%d*%d", count(l, "PO1"), 2*count(l, "PO1"))
	}
	sets, refused := count(l, "AK2"), count(l, "AK3")
	letter := "P"
	if refused == 0 {
		letter = "A"
	}
	if refused == sets {
		letter = "R"
	}
	texts["AK9"] = fmt.Sprintf("%s*%d*%d*%d", letter, sets, sets, sets-refused)
	return api.Segment{Tag: tag, Elems: strings.Split(texts[tag], "*")}
}

func TestP5_5TagsAndWhatIsMissing(t *testing.T) {
	for _, text := range papers() {
		l := segments(text)
		for n := range l[1:] {
			wantReadFault(t, texts(l[:n+1], "*", "~"), edi.ErrTag, n+1, 0)
			wantReadFault(t, texts(l[:n+1], "*", "~")+"ZZ1*1~"+texts(l[n+1:], "*", "~"), edi.ErrTag, n+1, 0)
		}
	}
	wantReadFault(t, "BEG*00*SA*N-1**20251231~", edi.ErrTag, 1, 0)
	wantReadFault(t, "BEG*00*SA*N-1**20251231~CTT*0*0~", edi.ErrTag, 1, 0)
	wantReadFault(t, "BEG*00*SA*N-1**20251231~PO1*1*5*EA*2.50**EN*6291041500213~", edi.ErrTag, 2, 0)
	wantReadFault(t, lines+"CTT*1*5~", edi.ErrTag, 3, 0)
	wantReadFault(t, lines+"PO1*2*5*EA*2.50**EN*6291041500213~", edi.ErrTag, 3, 0)
	wantReadFault(t, replaced(lines, "PO1", "po1"), edi.ErrTag, 1, 0)
	wantReadFault(t, replaced(stock, "QTY*33*3*EA~", ""), edi.ErrTag, 3, 0)
	wantReadFault(t, replaced(stock, "CTT*1", "QTY*33*3*EA~CTT*1"), edi.ErrTag, 4, 0)
	wantReadFault(t, replaced(stock, "QTY*17*9*EA~QTY*33*3*EA~", ""), edi.ErrTag, 2, 0)
	wantReadFault(t, replaced(answer, "AK5*A~", ""), edi.ErrTag, 2, 0)
	wantReadFault(t, replaced(answer, "AK3*4*2~", "AK3*4*2~AK3*4*2~"), edi.ErrTag, 5, 0)
	wantReadFault(t, "AK1*PO*7~AK9*A*0*0*0~", edi.ErrTag, 1, 0)
}

func TestP5_5ElementsMissingAndTooMany(t *testing.T) {
	for _, text := range papers() {
		l := segments(text)
		for n, s := range l {
			for k := range s.Elems {
				x := slices.Clone(l)
				x[n].Elems = s.Elems[:k]
				wantReadFault(t, texts(x, "*", "~"), edi.ErrElement, n, k+1)
				x[n].Elems = slices.Concat([]string{"wrong"}, s.Elems[1:], slices.Repeat([]string{"x"}, k+1))
				wantReadFault(t, texts(x, "*", "~"), edi.ErrElement, n, len(s.Elems)+1)
			}
		}
	}
}

func TestP5_5Orders(t *testing.T) {
	instead(t, lines, "BEG*00", edi.ErrElement, 0, 1, "BEG*01", "BEG*", "BEG*0", "BEG*000")
	instead(t, lines, "*SA*", edi.ErrElement, 0, 2, "*SI*", "**", "*sa*", "*SA *")
	instead(t, lines, "N-1", edi.ErrElement, 0, 3, "", "n-1", "N 1", "N_1", strings.Repeat("N", 23), "N\n", "É", "N.1", "@", "[")
	instead(t, lines, "N-1**", edi.ErrElement, 0, 4, "N-1*x*", "N-1* *", "N-1*0*")
	for _, day := range []string{"", "251231", "20250229", "20251200", "20251301", "x0251231", "0x251231", "202512311", "2025-12-31", "19000230", "20010229"} {
		instead(t, lines, "20251231", edi.ErrElement, 0, 5, day)
	}
	instead(t, lines, "PO1*1*", edi.ErrElement, 1, 1, "PO1*2*", "PO1*0*", "PO1*01*", "PO1**", "PO1*+1*", "PO1*-1*", "PO1*x*")
	instead(t, lines, "*1*5*EA", edi.ErrElement, 1, 2, "*1*0*EA", "*1*05*EA", "*1*-5*EA", "*1*+5*EA", "*1**EA", "*1*1000000000*EA", "*1*5.0*EA", "*1* 5*EA", "*1*99999999999999999999*EA", "*1*x*EA", "*1*18446744073709551617*EA")
	instead(t, lines, "EA", edi.ErrElement, 1, 3, "", "ea", "E", "EAA", "CA")
	instead(t, lines, "2.50", edi.ErrElement, 1, 4, "", "2", "2.", "2.5", "2.500", "02.50", "00.50", ".50", "-2.50", "+2.50", "2,50", "2.5x", "x.50", "10000000.00", "2.-5", "2.+5", "2..5", " 2.50", "2.50 ", "250", "99999999999999999999.00", "2.5.", "1.2.3")
	instead(t, lines, "2.50**", edi.ErrElement, 1, 5, "2.50*x*", "2.50* *")
	instead(t, lines, "*EN*", edi.ErrElement, 1, 6, "*UP*", "*UK*", "*EO*", "*XX*", "**", "*en*", "*EN *")
	instead(t, lines, "6291041500213", edi.ErrElement, 1, 7, "6291041500214", "", "x", "629104150021", "062910415002", "62910415002130", "629104150021x", "629104150021 ", "000000000000000000", "123456789012345675", "00000006291041500213")
	instead(t, lines, "*EN*6291041500213", edi.ErrElement, 1, 6, "*EN*12345670", "*EN*036000291452", "*EN*06291041500213", "*XX*x", "*XX*12345670", "*UK*6291041500213", "**x")
	instead(t, lines, "*EN*6291041500213", edi.ErrElement, 1, 7, "*EO*x", "*UP*", "*UK*000000000000000000", "*EO*000000000000000000", "*EN*12345671", "*UK*6291041500214")
	instead(t, lines, "CTT*1*5", edi.ErrCount, 2, 1, "CTT*0*5", "CTT*2*5", "CTT*01*5", "CTT*x*6", "CTT**5", "CTT*-1*5", "CTT*+1*5")
	instead(t, lines, "CTT*1*5", edi.ErrCount, 2, 2, "CTT*1*6", "CTT*1*05", "CTT*1*0", "CTT*1*x", "CTT*1*", "CTT*1*-5", "CTT*1*4294967301", "CTT*1*18446744073709551621")
}

func TestP5_5OrdersAtTheirEnds(t *testing.T) {
	for _, x := range []struct {
		from, to string
		want     func(o *api.Order)
	}{
		{"N-1", "-", func(o *api.Order) { o.Number = "-" }},
		{"N-1", "ABCDEFGHIJKLMNOPQRSTUV", func(o *api.Order) { o.Number = "ABCDEFGHIJKLMNOPQRSTUV" }},
		{"N-1", "WXYZ0123456789", func(o *api.Order) { o.Number = "WXYZ0123456789" }},
		{"20251231", "19000229", func(o *api.Order) { o.Date = "19000229" }},
		{"20251231", "00000101", func(o *api.Order) { o.Date = "00000101" }},
		{"*5*EA*2.50**EN*6291041500213~CTT*1*5", "*1*EA*2.50**EN*6291041500213~CTT*1*1", func(o *api.Order) { o.Lines[0].Qty = 1 }},
		{"*5*EA*2.50**EN*6291041500213~CTT*1*5", "*999999999*EA*2.50**EN*6291041500213~CTT*1*999999999", func(o *api.Order) { o.Lines[0].Qty = 999999999 }},
		{"2.50", "0.00", func(o *api.Order) { o.Lines[0].Cents = 0 }},
		{"2.50", "0.01", func(o *api.Order) { o.Lines[0].Cents = 1 }},
		{"2.50", "9999999.99", func(o *api.Order) { o.Lines[0].Cents = 999999999 }},
		{"2.50", "10.05", func(o *api.Order) { o.Lines[0].Cents = 1005 }},
		{"EN*6291041500213", "EO*12345670", func(o *api.Order) { o.Lines[0].Code = "12345670" }},
		{"EN*6291041500213", "UP*036000291452", func(o *api.Order) { o.Lines[0].Code = "036000291452" }},
		{"EN*6291041500213", "UK*10036000291459", func(o *api.Order) { o.Lines[0].Code = "10036000291459" }},
	} {
		want := api.Order{Number: "N-1", Date: "20251231", Lines: []api.OrderLine{{Qty: 5, Cents: 250, Code: "6291041500213"}}}
		x.want(&want)
		if got, err := edi.ReadOrder(api.Set{Id: "850", Segments: segments(replaced(lines, x.from, x.to))}); err != nil || !equal(got, want) {
			t.Errorf("%s: %+v, %v", x.to, got, err)
		}
	}
}

func TestP5_5Advices(t *testing.T) {
	instead(t, stock, "BIA*00", edi.ErrElement, 0, 1, "BIA*08", "BIA*")
	instead(t, stock, "*SI*", edi.ErrElement, 0, 2, "*SA*", "**")
	instead(t, stock, "*A*", edi.ErrElement, 0, 3, "*a*", "**", "*"+strings.Repeat("A", 23)+"*")
	instead(t, stock, "20240229", edi.ErrElement, 0, 4, "20250229", "240229", "", "20240200")
	instead(t, stock, "LIN*1", edi.ErrElement, 1, 1, "LIN*2", "LIN*0", "LIN*01", "LIN*")
	instead(t, stock, "*UP*", edi.ErrElement, 1, 2, "*EN*", "*XX*", "**")
	instead(t, stock, "036000291452", edi.ErrElement, 1, 3, "036000291453", "", "x", "000000000000000000")
	instead(t, stock, "QTY*17", edi.ErrElement, 2, 1, "QTY*33", "QTY*", "QTY*017", "QTY*18")
	instead(t, stock, "QTY*33", edi.ErrElement, 3, 1, "QTY*17", "QTY*", "QTY*34")
	for _, n := range []string{"", "-1", "+1", "00", "09", "1000000000000001", "10000000000000000", "x", " 1", "99999999999999999999", "1.0"} {
		instead(t, stock, "*9*", edi.ErrElement, 2, 2, "*"+n+"*")
		instead(t, stock, "*33*3*", edi.ErrElement, 3, 2, "*33*"+n+"*")
	}
	instead(t, stock, "*9*EA", edi.ErrElement, 2, 3, "*9*ea", "*9*", "*9*CA")
	instead(t, stock, "*33*3*EA", edi.ErrElement, 3, 3, "*33*3*ea", "*33*3*")
	instead(t, stock, "CTT*1", edi.ErrCount, 4, 1, "CTT*0", "CTT*2", "CTT*01", "CTT*", "CTT*x")
	instead(t, stock, "CTT*1", edi.ErrElement, 4, 2, "CTT*1*1", "CTT*2*1")
	for _, n := range []string{"0", "1", "1000000000000000"} {
		for _, m := range []string{"0", "2", "1000000000000000"} {
			text := replaced(replaced(stock, "*9*", "*"+n+"*"), "*33*3*", "*33*"+m+"*")
			want := api.Advice{Number: "A", Date: "20240229", Lines: []api.AdviceLine{{Code: "036000291452", OnHand: number(n), Free: number(m)}}}
			if got, err := edi.ReadAdvice(api.Set{Id: "846", Segments: segments(text)}); err != nil || !equal(got, want) {
				t.Errorf("%s: %+v, %v", text, got, err)
			}
		}
	}
}

func TestP5_5Acks(t *testing.T) {
	instead(t, answer, "AK1*PO", edi.ErrElement, 0, 1, "AK1*FA", "AK1*XX", "AK1*", "AK1*po", "AK1*850")
	instead(t, answer, "PO*7", edi.ErrElement, 0, 2, "PO*0", "PO*07", "PO*1000000000", "PO*-7", "PO*+7", "PO*", "PO*x", "PO*000000007")
	instead(t, answer, "AK1*PO", edi.ErrElement, 1, 1, "AK1*IB")
	instead(t, answer, "AK2*850*0001", edi.ErrElement, 1, 1, "AK2*846*0001", "AK2*997*0001", "AK2**0001", "AK2*PO*x")
	instead(t, answer, "AK2*850*0001", edi.ErrElement, 1, 2, "AK2*850*001", "AK2*850*", "AK2*850*0000000001", "AK2*850*000x", "AK2*850*-001")
	instead(t, answer, "0002", edi.ErrElement, 3, 2, "0001", "1", "x")
	instead(t, answer, "AK3*4", edi.ErrElement, 4, 1, "AK3*1", "AK3*0", "AK3*04", "AK3*-4", "AK3*100000", "AK3*", "AK3*x", "AK3*+4")
	instead(t, answer, "*4*2", edi.ErrElement, 4, 2, "*4*-2", "*4*02", "*4*100000", "*4*", "*4*x", "*4*+2", "*4*00")
	instead(t, answer, "AK5*A", edi.ErrElement, 2, 1, "AK5*R", "AK5*", "AK5*E", "AK5*a", "AK5*P", "AK5*AA")
	instead(t, answer, "AK5*R", edi.ErrElement, 5, 1, "AK5*A", "AK5*", "AK5*X", "AK5*r")
	instead(t, answer, "AK9*P", edi.ErrCount, 6, 1, "AK9*A", "AK9*R", "AK9*", "AK9*E", "AK9*p", "AK9*PP")
	instead(t, answer, "*P*2*2*1", edi.ErrCount, 6, 2, "*P*1*2*1", "*P*02*2*1", "*P**1*1", "*P*x*1*0")
	instead(t, answer, "*P*2*2*1", edi.ErrCount, 6, 3, "*P*2*1*1", "*P*2*3*0", "*P*2**1")
	instead(t, answer, "*P*2*2*1", edi.ErrCount, 6, 4, "*P*2*2*2", "*P*2*2*0", "*P*2*2*01", "*P*2*2*")
	for _, x := range []struct{ from, to string }{
		{"PO*7", "PO*1"}, {"PO*7", "PO*999999999"}, {"0002", "00001"}, {"0001", "000000000"}, {"*4*2", "*2*0"}, {"*4*2", "*99999*99999"},
		{"AK3*4*2~AK5*R~AK9*P*2*2*1", "AK5*A~AK9*A*2*2*2"}, {"AK2*850*0001~AK5*A~", "AK2*850*0001~AK3*2*1~AK5*R~"},
	} {
		text := replaced(answer, x.from, x.to)
		if strings.HasPrefix(x.to, "AK2") {
			text = replaced(text, "P*2*2*1", "R*2*2*0")
		}
		want := ackSlowly(segments(text))
		if got, err := edi.ReadAck(api.Set{Id: "997", Segments: segments(text)}); err != nil || !equal(got, want) {
			t.Errorf("%s: %+v, %v", text, got, err)
		}
	}
}

func TestP5_5ManyLines(t *testing.T) {
	r := rand.New(rand.NewSource(55))
	for _, n := range []int{1, 2, 199, 200} {
		for _, s := range []api.Set{{Id: "850", Segments: segments(orderText(someOrder(r, n)))}, {Id: "846", Segments: segments(adviceText(someAdvice(r, n)))}, {Id: "997", Segments: segments(ackText(someAck(r, n)))}} {
			wantReads(t, s)
			l := s.Segments
			last := l[len(l)-1].Elems
			last[0] = "wrong"
			wantReads(t, s)
		}
	}
	o := someOrder(r, 201)
	wantReadFault(t, orderText(o), edi.ErrDocument, 201, 0)
	l := segments(orderText(o))
	l[201].Elems = nil
	_, err := edi.ReadOrder(api.Set{Id: "850", Segments: l})
	wantFault(t, "ahead of its elements", err, fault{edi.ErrDocument, 201, 0})
	l[200].Elems = nil
	_, err = edi.ReadOrder(api.Set{Id: "850", Segments: l})
	wantFault(t, "behind a fault", err, fault{edi.ErrElement, 200, 1})
	wantReadFault(t, orderText(someOrder(r, 500)), edi.ErrDocument, 201, 0)
	wantReadFault(t, adviceText(someAdvice(r, 201)), edi.ErrDocument, 601, 0)
	l = segments(adviceText(someAdvice(r, 201)))
	l[601].Elems = []string{"x"}
	_, err = edi.ReadAdvice(api.Set{Id: "846", Segments: l})
	wantFault(t, "ahead of its elements", err, fault{edi.ErrDocument, 601, 0})
	a := someAck(r, 201)
	for n := range a.Sets {
		a.Sets[n] = api.AckSet{Id: idOf(a.Kind), Control: fmt.Sprintf("%04d", n), Ok: true}
	}
	wantReadFault(t, ackText(a), edi.ErrDocument, 401, 0)
	l = segments(ackText(a))
	l[401].Elems[1] = "0001"
	_, err = edi.ReadAck(api.Set{Id: "997", Segments: l})
	wantFault(t, "ahead of its elements", err, fault{edi.ErrDocument, 401, 0})
}

// Every byte in each element of each document.
func TestP5_5EveryByte(t *testing.T) {
	for id, text := range papers() {
		for n, s := range segments(text) {
			for k, e := range s.Elems {
				for c := range 256 {
					x := string([]byte{byte(c)})
					for _, e := range []string{x, x + e, e + x, e[:len(e)/2] + x + e[len(e)/2:], e[:max(0, len(e)-1)] + x, x + e[min(1, len(e)):]} {
						l := segments(text)
						l[n].Elems[k] = e
						wantReads(t, api.Set{Id: id, Segments: l})
					}
				}
			}
		}
	}
}

// spoilSet changes a document at a place of chance.
func spoilSet(r *rand.Rand, l []api.Segment) []api.Segment {
	n := r.Intn(len(l))
	switch s := &l[n]; r.Intn(7) {
	case 0:
		return slices.Delete(l, n, n+1)
	case 1:
		return slices.Insert(l, n, l[n])
	case 2:
		m := r.Intn(len(l))
		l[n], l[m] = l[m], l[n]
	case 3:
		s.Elems = s.Elems[:r.Intn(len(s.Elems)+1)]
	case 4:
		s.Elems = append(slices.Clone(s.Elems), pick(r, "", "x", "0"))
	default:
		if len(s.Elems) > 0 {
			s.Elems[r.Intn(len(s.Elems))] = pick(r, "", "0", "1", "2", "3", "00", "01", "17", "33", "A", "R", "P", "EA", "EO", "UP", "EN", "UK", "12345670", "036000291452", "6291041500213", "1.00", "850", "846", "PO", "IB", "0001", "0000", "20240229", "SA", "SI", "x")
		}
	}
	return l
}

func TestP5_5SpoiltDocuments(t *testing.T) {
	r := rand.New(rand.NewSource(56))
	for range 30000 {
		text := pick(r, orderText(someOrder(r, 1+r.Intn(3))), adviceText(someAdvice(r, 1+r.Intn(3))), ackText(someAck(r, 1+r.Intn(4))))
		l := segments(text)
		for range r.Intn(3) {
			if len(l) > 0 {
				l = spoilSet(r, l)
			}
		}
		id := map[string]string{"BEG": "850", "BIA": "846", "AK1": "997"}[text[:3]]
		wantReads(t, api.Set{Id: id, Segments: l})
		if t.Failed() {
			return
		}
	}
}
