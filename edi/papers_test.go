package edi_test

import (
	"fmt"
	"math/rand"
	"slices"
	"strconv"
	"strings"
	"testing"

	"larder/api"
	"larder/edi"
)

const (
	stock  = "BIA*00*SI*A*20240229~LIN*1*UP*036000291452~QTY*17*9*EA~QTY*33*3*EA~CTT*1~"
	answer = "AK1*PO*7~AK2*850*0001~AK5*A~AK2*850*0002~AK3*4*2~AK5*R~AK9*P*2*2*1~"
)

func tradeSlowly(code string) bool {
	if !fits(`\d{8}|\d{12,14}`, code) {
		return false
	}
	sum := 0
	for i, weight := len(code)-1, 1; i >= 0; i, weight = i-1, 4-weight {
		sum += weight * int(code[i]-'0')
	}
	return sum%10 == 0
}

// A must is what an element of a document must be, and what is told if it is not.
type must struct {
	ok  func(text string) bool
	err error
}

func form(f string) must {
	return must{func(text string) bool { return fits(f, text) }, edi.ErrElement}
}

func counted(n int) must {
	return must{func(text string) bool { return text == strconv.Itoa(n) }, edi.ErrCount}
}

func pairSlowly(elems []string) []must {
	qualifier := func(text string) bool {
		code := elems[len(elems)-1]
		right := map[int]string{8: "EO", 12: "UP", 13: "EN", 14: "UK"}[len(code)]
		return fits("EO|UP|EN|UK", text) && (!tradeSlowly(code) || text == right)
	}
	return []must{{qualifier, edi.ErrElement}, {tradeSlowly, edi.ErrElement}}
}

// A paper is one of the three documents: the letters of its tags, which sequences of them are beginnings, which are whole, which tags open a line, and what the elements of the last segment must be.
type paper struct {
	id, tags      string
	begun, closed string
	opens         string
	musts         func(l []api.Segment) []must
}

func (p paper) letters(l []api.Segment) string {
	text := ""
	for _, s := range l {
		at := strings.Index(p.tags, " "+s.Tag+"=")
		if len(s.Tag) != 3 || at < 0 {
			text += "?"
			continue
		}
		text += p.tags[at+5 : at+6]
	}
	return text
}

func (p paper) readSlowly(s api.Set) fault {
	if s.Id != p.id {
		return fault{edi.ErrSet, 0, 0}
	}
	for n, x := range s.Segments {
		ahead := s.Segments[:n+1]
		if !fits(p.begun, p.letters(ahead)) {
			return fault{edi.ErrTag, n, 0}
		}
		opened := func(s api.Segment) bool { return s.Tag == p.opens }
		if opened(x) && count(ahead, p.opens) > 200 {
			return fault{edi.ErrDocument, n, 0}
		}
		musts := p.musts(ahead)
		if len(musts) != len(x.Elems) {
			return fault{edi.ErrElement, n, min(len(musts), len(x.Elems)) + 1}
		}
		for i, m := range musts {
			if !m.ok(x.Elems[i]) {
				return fault{m.err, n, i + 1}
			}
		}
	}
	if !fits(p.closed, p.letters(s.Segments)) {
		return fault{edi.ErrTag, len(s.Segments), 0}
	}
	return fault{}
}

func count(l []api.Segment, tag string) int {
	n := 0
	for _, s := range l {
		if s.Tag == tag {
			n++
		}
	}
	return n
}

const goodsForm = `0|[1-9]\d{0,14}|1000000000000000`

func orders() paper {
	return paper{"850", " BEG=B PO1=P CTT=C", "BP*|BP+C", "BP+C", "PO1", func(l []api.Segment) []must {
		last := l[len(l)-1]
		switch last.Tag {
		case "BEG":
			return []must{form("00"), form("SA"), form("[A-Z0-9-]{1,22}"), form(""), form(longDayForm)}
		case "PO1":
			return append([]must{form(strconv.Itoa(count(l, "PO1"))), form(controlForm), form("EA"), form(`(?:0|[1-9]\d{0,6})\.\d\d`), form("")}, pairSlowly(last.Elems)...)
		}
		sum := 0
		for _, s := range l[1 : len(l)-1] {
			n, _ := strconv.Atoi(s.Elems[1])
			sum += n
		}
		return []must{counted(count(l, "PO1")), counted(sum)}
	}}
}

func advices() paper {
	return paper{"846", " BIA=B LIN=L QTY=Q CTT=C", "B(LQQ)*(LQ?)?|B(LQQ)+C", "B(LQQ)+C", "LIN", func(l []api.Segment) []must {
		last := l[len(l)-1]
		switch last.Tag {
		case "BIA":
			return []must{form("00"), form("SI"), form("[A-Z0-9-]{1,22}"), form(longDayForm)}
		case "LIN":
			return append([]must{form(strconv.Itoa(count(l, "LIN")))}, pairSlowly(last.Elems)...)
		case "QTY":
			kind := map[int]string{1: "17", 0: "33"}[count(l, "QTY")%2]
			return []must{form(kind), form(goodsForm), form("EA")}
		}
		return []must{counted(count(l, "LIN"))}
	}}
}

func acks() paper {
	return paper{"997", " AK1=1 AK2=2 AK3=3 AK5=5 AK9=9", "1(23?5)*(23?)?|1(23?5)+9", "1(23?5)+9", "AK2", func(l []api.Segment) []must {
		last := l[len(l)-1]
		switch last.Tag {
		case "AK1":
			return []must{form("PO|IB"), form(controlForm)}
		case "AK2":
			unlike := func(text string) bool {
				return fits(setForm, text) && !slices.ContainsFunc(l[:len(l)-1], func(s api.Segment) bool { return s.Tag == "AK2" && s.Elems[1] == text })
			}
			return []must{form(idOf(l[0].Elems[0])), {unlike, edi.ErrElement}}
		case "AK3":
			return []must{form(`[2-9]|[1-9]\d{1,4}`), form(`0|[1-9]\d{0,4}`)}
		case "AK5":
			return []must{form(map[bool]string{true: "R", false: "A"}[l[len(l)-2].Tag == "AK3"])}
		}
		sets, refused := count(l, "AK2"), count(l, "AK3")
		letter := "P"
		if refused == 0 {
			letter = "A"
		}
		if refused == sets {
			letter = "R"
		}
		return []must{{func(text string) bool { return text == letter }, edi.ErrCount}, counted(sets), counted(sets), counted(sets - refused)}
	}}
}

func number(text string) int {
	n, err := strconv.Atoi(text)
	if err != nil {
		panic(err)
	}
	return n
}

func orderSlowly(l []api.Segment) api.Order {
	o := api.Order{Number: l[0].Elems[2], Date: l[0].Elems[4]}
	for _, s := range l[1 : len(l)-1] {
		o.Lines = append(o.Lines, api.OrderLine{Qty: number(s.Elems[1]), Cents: number(strings.ReplaceAll(s.Elems[3], ".", "")), Code: s.Elems[6]})
	}
	return o
}

func adviceSlowly(l []api.Segment) api.Advice {
	a := api.Advice{Number: l[0].Elems[2], Date: l[0].Elems[3]}
	for n := 1; n+1 < len(l); n += 3 {
		a.Lines = append(a.Lines, api.AdviceLine{Code: l[n].Elems[2], OnHand: number(l[n+1].Elems[1]), Free: number(l[n+2].Elems[1])})
	}
	return a
}

func ackSlowly(l []api.Segment) api.Ack {
	a := api.Ack{Kind: l[0].Elems[0], Control: number(l[0].Elems[1])}
	for n, s := range l {
		if s.Tag == "AK2" {
			x := api.AckSet{Id: s.Elems[0], Control: s.Elems[1], Ok: l[n+1].Tag == "AK5"}
			if !x.Ok {
				x.Segment, x.Element = number(l[n+1].Elems[0])-2, number(l[n+1].Elems[1])
			}
			a.Sets = append(a.Sets, x)
		}
	}
	return a
}

// wantRead holds the Read of a document against the slow one.
func wantRead[D any](t *testing.T, p paper, s api.Set, read func(api.Set) (D, error), slowly func([]api.Segment) D) {
	t.Helper()
	var want D
	f := p.readSlowly(s)
	if f == (fault{}) {
		want = slowly(s.Segments)
	}
	if got, err := read(s); told(err) != f || !equal(got, want) {
		t.Errorf("%s: %+v, %v, want %+v, %v", short(s.Id+" "+texts(s.Segments, "*", "~")), got, told(err), want, f)
	}
}

// wantReads holds all three Reads against the slow ones.
func wantReads(t *testing.T, s api.Set) {
	t.Helper()
	wantRead(t, orders(), s, edi.ReadOrder, orderSlowly)
	wantRead(t, advices(), s, edi.ReadAdvice, adviceSlowly)
	wantRead(t, acks(), s, edi.ReadAck, ackSlowly)
}

func someCode(r *rand.Rand) string {
	for {
		code := fmt.Sprintf("%0*d", pick(r, 8, 12, 13, 14), r.Intn(100000000))
		if tradeSlowly(code) {
			return code
		}
	}
}

func someNumber(r *rand.Rand) string {
	return times(r, 21, func() string { return pick(r, "A", "Z", "0", "9", "-") }) + pick(r, "-", "N", "5")
}

func someLongDay(r *rand.Rand) string {
	return pick(r, "00", "20", "99") + pick(r, "000229", "960229", "250101", "251231")
}

func someOrder(r *rand.Rand, lines int) api.Order {
	o := api.Order{Number: someNumber(r), Date: someLongDay(r)}
	for range lines {
		o.Lines = append(o.Lines, api.OrderLine{Qty: pick(r, 1, 5, 999999999, 1+r.Intn(999999999)), Cents: pick(r, 0, 5, 99, 100, 999999999, r.Intn(1000000000)), Code: someCode(r)})
	}
	return o
}

func someAdvice(r *rand.Rand, lines int) api.Advice {
	a := api.Advice{Number: someNumber(r), Date: someLongDay(r)}
	some := func() int { return pick(r, 0, 1, 1000000000000000, r.Intn(1000000000000001)) }
	for range lines {
		a.Lines = append(a.Lines, api.AdviceLine{Code: someCode(r), OnHand: some(), Free: some()})
	}
	return a
}

func someAck(r *rand.Rand, sets int) api.Ack {
	a := api.Ack{Kind: pick(r, "PO", "IB"), Control: pick(r, 1, 999999999, 1+r.Intn(999999999))}
	accepted := r.Intn(3)
	for n := range sets {
		x := api.AckSet{Id: idOf(a.Kind), Control: fmt.Sprintf("%0*d", 4+r.Intn(6), n), Ok: accepted == 2 || accepted == 1 && r.Intn(2) == 0}
		if !x.Ok {
			x.Segment, x.Element = pick(r, 0, 1, 99997, r.Intn(99998)), pick(r, 0, 1, 99999, r.Intn(100000))
		}
		a.Sets = append(a.Sets, x)
	}
	return a
}

// The documents as section 5.3 lays them down.

func orderText(o api.Order) string {
	text, sum := fmt.Sprintf("BEG*00*SA*%s**%s~", o.Number, o.Date), 0
	for n, l := range o.Lines {
		text += fmt.Sprintf("PO1*%d*%d*EA*%s**%s*%s~", n+1, l.Qty, priceText(l.Cents), qualText(l.Code), l.Code)
		sum += l.Qty
	}
	return text + fmt.Sprintf("CTT*%d*%d~", len(o.Lines), sum)
}

func priceText(cents int) string {
	if cents < 0 {
		return strconv.Itoa(cents)
	}
	return fmt.Sprintf("%d.%02d", cents/100, cents%100)
}

func qualText(code string) string {
	if q, ok := map[int]string{8: "EO", 12: "UP", 13: "EN"}[len(code)]; ok {
		return q
	}
	return "UK"
}

func adviceText(a api.Advice) string {
	text := fmt.Sprintf("BIA*00*SI*%s*%s~", a.Number, a.Date)
	for n, l := range a.Lines {
		text += fmt.Sprintf("LIN*%d*%s*%s~QTY*17*%d*EA~QTY*33*%d*EA~", n+1, qualText(l.Code), l.Code, l.OnHand, l.Free)
	}
	return text + fmt.Sprintf("CTT*%d~", len(a.Lines))
}

func ackText(a api.Ack) string {
	text, refused := fmt.Sprintf("AK1*%s*%d~", a.Kind, a.Control), 0
	for _, x := range a.Sets {
		text += fmt.Sprintf("AK2*%s*%s~", x.Id, x.Control)
		if x.Ok {
			text += "AK5*A~"
		} else {
			text += fmt.Sprintf("AK3*%d*%d~AK5*R~", x.Segment+2, x.Element)
			refused++
		}
	}
	letter := "P"
	if refused == len(a.Sets) {
		letter = "R"
	}
	if refused == 0 {
		letter = "A"
	}
	return text + fmt.Sprintf("AK9*%s*%d*%d*%d~", letter, len(a.Sets), len(a.Sets), len(a.Sets)-refused)
}
