package edi_test

import (
	"math"
	"math/rand"
	"slices"
	"strings"
	"testing"

	"larder/api"
	"larder/edi"
)

// wantBuilt holds a Build against the slow way: the segments of the text, if the slow Read takes them as this document.
func wantBuilt[D any](t *testing.T, p paper, d D, text string, build func(D, string) (api.Set, error), slowly func([]api.Segment) D) {
	t.Helper()
	want := api.Set{Id: p.id, Control: "0009", Segments: segments(text)}
	f := p.readSlowly(want)
	if f == (fault{}) && !equal(slowly(want.Segments), d) {
		f = fault{edi.ErrDocument, 0, 0}
	}
	if f != (fault{}) {
		want = api.Set{}
	}
	if got, err := build(d, "0009"); told(err) != f || !equal(got, want) {
		t.Errorf("%s: %+v, %v, want %+v, %v", short(text), got, told(err), want, f)
	}
}

func wantOrder(t *testing.T, o api.Order) {
	t.Helper()
	wantBuilt(t, orders(), o, orderText(o), edi.BuildOrder, orderSlowly)
}

func wantAdvice(t *testing.T, a api.Advice) {
	t.Helper()
	wantBuilt(t, advices(), a, adviceText(a), edi.BuildAdvice, adviceSlowly)
}

func wantAck(t *testing.T, a api.Ack) {
	t.Helper()
	wantBuilt(t, acks(), a, ackText(a), edi.BuildAck, ackSlowly)
}

func TestP5_6Documents(t *testing.T) {
	s, err := edi.BuildOrder(api.Order{Number: "N-1", Date: "20251231", Lines: []api.OrderLine{{Qty: 5, Cents: 250, Code: "6291041500213"}}}, "0009")
	if err != nil || !equal(s, api.Set{Id: "850", Control: "0009", Segments: segments(lines)}) {
		t.Errorf("%+v, %v", s, err)
	}
	s, err = edi.BuildAdvice(api.Advice{Number: "A", Date: "20240229", Lines: []api.AdviceLine{{Code: "036000291452", OnHand: 9, Free: 3}}}, "")
	if err != nil || !equal(s, api.Set{Id: "846", Segments: segments(stock)}) {
		t.Errorf("%+v, %v", s, err)
	}
	s, err = edi.BuildAck(api.Ack{Kind: "PO", Control: 7, Sets: []api.AckSet{{Id: "850", Control: "0001", Ok: true}, {Id: "850", Control: "0002", Segment: 2, Element: 2}}}, "any text\x00")
	if err != nil || !equal(s, api.Set{Id: "997", Control: "any text\x00", Segments: segments(answer)}) {
		t.Errorf("%+v, %v", s, err)
	}
}

func TestP5_6ReadOfBuildIsTheDocument(t *testing.T) {
	r := rand.New(rand.NewSource(560))
	for n := range 3000 {
		size := 1 + r.Intn(5)
		if n%1000 == 0 {
			size = 200
		}
		o, a, k := someOrder(r, size), someAdvice(r, size), someAck(r, size)
		s, err := edi.BuildOrder(o, "0001")
		if back, e := edi.ReadOrder(s); err != nil || e != nil || !equal(back, o) {
			t.Fatalf("%+v: %+v, %v, %v", o, back, err, e)
		}
		s, err = edi.BuildAdvice(a, "0001")
		if back, e := edi.ReadAdvice(s); err != nil || e != nil || !equal(back, a) {
			t.Fatalf("%+v: %+v, %v, %v", a, back, err, e)
		}
		s, err = edi.BuildAck(k, "0001")
		if back, e := edi.ReadAck(s); err != nil || e != nil || !equal(back, k) {
			t.Fatalf("%+v: %+v, %v, %v", k, back, err, e)
		}
		wantOrder(t, o)
		wantAdvice(t, a)
		wantAck(t, k)
	}
}

// What a Read takes is what the Build of the document lays down.
func TestP5_6BuildOfReadIsTheSet(t *testing.T) {
	r := rand.New(rand.NewSource(561))
	taken := 0
	for range 20000 {
		text := orderText(someOrder(r, 1+r.Intn(3)))
		s := api.Set{Id: "850", Control: "0001", Segments: spoilSet(r, segments(text))}
		o, err := edi.ReadOrder(s)
		if err != nil {
			continue
		}
		taken++
		if again, err := edi.BuildOrder(o, "0001"); err != nil || !equal(again, s) {
			t.Fatalf("%+v, %v, want %+v", again, err, s)
		}
	}
	if taken < 100 {
		t.Errorf("only %d were taken", taken)
	}
}

func TestP5_6Orders(t *testing.T) {
	for _, x := range []struct {
		change           func(o *api.Order)
		err              error
		segment, element int
	}{
		{func(o *api.Order) {}, nil, 0, 0},
		{func(o *api.Order) { o.Number = "" }, edi.ErrElement, 0, 3},
		{func(o *api.Order) { o.Number = strings.Repeat("N", 23) }, edi.ErrElement, 0, 3},
		{func(o *api.Order) { o.Number = strings.Repeat("N", 22) }, nil, 0, 0},
		{func(o *api.Order) { o.Date = "251231" }, edi.ErrElement, 0, 5},
		{func(o *api.Order) { o.Date = "20250229" }, edi.ErrElement, 0, 5},
		{func(o *api.Order) { o.Lines = nil }, edi.ErrTag, 1, 0},
		{func(o *api.Order) { o.Lines = []api.OrderLine{} }, edi.ErrTag, 1, 0},
		{func(o *api.Order) { o.Lines[1].Qty = 0 }, edi.ErrElement, 2, 2},
		{func(o *api.Order) { o.Lines[1].Qty = -5 }, edi.ErrElement, 2, 2},
		{func(o *api.Order) { o.Lines[1].Qty = 1000000000 }, edi.ErrElement, 2, 2},
		{func(o *api.Order) { o.Lines[0].Qty, o.Lines[1].Qty = math.MaxInt, math.MaxInt }, edi.ErrElement, 1, 2},
		{func(o *api.Order) { o.Lines[1].Qty = math.MinInt }, edi.ErrElement, 2, 2},
		{func(o *api.Order) { o.Lines[1].Cents = 0 }, nil, 0, 0},
		{func(o *api.Order) { o.Lines[1].Cents = -1 }, edi.ErrElement, 2, 4},
		{func(o *api.Order) { o.Lines[1].Cents = -250 }, edi.ErrElement, 2, 4},
		{func(o *api.Order) { o.Lines[1].Cents = 1000000000 }, edi.ErrElement, 2, 4},
		{func(o *api.Order) { o.Lines[1].Cents = math.MinInt }, edi.ErrElement, 2, 4},
		{func(o *api.Order) { o.Lines[1].Cents = math.MaxInt }, edi.ErrElement, 2, 4},
		{func(o *api.Order) { o.Lines[1].Code = "" }, edi.ErrElement, 2, 7},
		{func(o *api.Order) { o.Lines[1].Code = "12345671" }, edi.ErrElement, 2, 7},
		{func(o *api.Order) { o.Lines[1].Code = "000000000000000000" }, edi.ErrElement, 2, 7},
		{func(o *api.Order) { o.Lines[1].Code = "10036000291459" }, nil, 0, 0},
		{func(o *api.Order) { o.Lines[1].Code = "036000291452" }, nil, 0, 0},
		{func(o *api.Order) { o.Lines = slices.Repeat(o.Lines, 100) }, nil, 0, 0},
		{func(o *api.Order) { o.Lines = slices.Repeat(o.Lines, 101) }, edi.ErrDocument, 201, 0},
		{func(o *api.Order) { o.Lines = slices.Repeat(o.Lines, 101); o.Lines[200] = api.OrderLine{} }, edi.ErrDocument, 201, 0},
		{func(o *api.Order) { *o = api.Order{} }, edi.ErrElement, 0, 3},
	} {
		o := api.Order{Number: "N-1", Date: "20251231", Lines: []api.OrderLine{{Qty: 5, Cents: 250, Code: "6291041500213"}, {Qty: 7, Cents: 1, Code: "12345670"}}}
		x.change(&o)
		_, err := edi.BuildOrder(o, "0009")
		wantFault(t, "BuildOrder", err, fault{x.err, x.segment, x.element})
		wantOrder(t, o)
	}
}

func TestP5_6Prices(t *testing.T) {
	for cents, text := range map[int]string{0: "0.00", 1: "0.01", 5: "0.05", 10: "0.10", 99: "0.99", 100: "1.00", 105: "1.05", 12345: "123.45", 999999999: "9999999.99"} {
		s, err := edi.BuildOrder(api.Order{Number: "N", Date: "20250101", Lines: []api.OrderLine{{Qty: 1, Cents: cents, Code: "12345670"}}}, "0001")
		if err != nil || s.Segments[1].Elems[3] != text {
			t.Errorf("%d: %v, %v", cents, s, err)
		}
	}
}

func TestP5_6Advices(t *testing.T) {
	for _, x := range []struct {
		change           func(a *api.Advice)
		err              error
		segment, element int
	}{
		{func(a *api.Advice) {}, nil, 0, 0},
		{func(a *api.Advice) { a.Number = "a" }, edi.ErrElement, 0, 3},
		{func(a *api.Advice) { a.Date = "20250200" }, edi.ErrElement, 0, 4},
		{func(a *api.Advice) { a.Lines = nil }, edi.ErrTag, 1, 0},
		{func(a *api.Advice) { a.Lines[1].Code = "x" }, edi.ErrElement, 4, 3},
		{func(a *api.Advice) { a.Lines[1].Code = "000000000000000000" }, edi.ErrElement, 4, 3},
		{func(a *api.Advice) { a.Lines[1].OnHand = -1 }, edi.ErrElement, 5, 2},
		{func(a *api.Advice) { a.Lines[1].OnHand = 1000000000000000 }, nil, 0, 0},
		{func(a *api.Advice) { a.Lines[1].OnHand = 1000000000000001 }, edi.ErrElement, 5, 2},
		{func(a *api.Advice) { a.Lines[1].OnHand = math.MinInt }, edi.ErrElement, 5, 2},
		{func(a *api.Advice) { a.Lines[1].Free = -1 }, edi.ErrElement, 6, 2},
		{func(a *api.Advice) { a.Lines[1].Free = 1000000000000000 }, nil, 0, 0},
		{func(a *api.Advice) { a.Lines[1].Free = 1000000000000001 }, edi.ErrElement, 6, 2},
		{func(a *api.Advice) { a.Lines[1].Free = math.MaxInt }, edi.ErrElement, 6, 2},
		{func(a *api.Advice) { a.Lines = slices.Repeat(a.Lines, 100) }, nil, 0, 0},
		{func(a *api.Advice) { a.Lines = slices.Repeat(a.Lines, 101) }, edi.ErrDocument, 601, 0},
		{func(a *api.Advice) { *a = api.Advice{} }, edi.ErrElement, 0, 3},
	} {
		a := api.Advice{Number: "A", Date: "20240229", Lines: []api.AdviceLine{{Code: "036000291452", OnHand: 9, Free: 3}, {Code: "10036000291459", OnHand: 0, Free: 12}}}
		x.change(&a)
		_, err := edi.BuildAdvice(a, "0009")
		wantFault(t, "BuildAdvice", err, fault{x.err, x.segment, x.element})
		wantAdvice(t, a)
	}
}

func TestP5_6Acks(t *testing.T) {
	many := func(n int) []api.AckSet {
		var l []api.AckSet
		for i := range n {
			l = append(l, api.AckSet{Id: "850", Control: nine(i), Ok: true})
		}
		return l
	}
	for _, x := range []struct {
		change           func(a *api.Ack)
		err              error
		segment, element int
	}{
		{func(a *api.Ack) {}, nil, 0, 0},
		{func(a *api.Ack) { a.Kind = "FA" }, edi.ErrElement, 0, 1},
		{func(a *api.Ack) { a.Kind = "IB" }, edi.ErrElement, 1, 1},
		{func(a *api.Ack) { a.Control = 0 }, edi.ErrElement, 0, 2},
		{func(a *api.Ack) { a.Control = -7 }, edi.ErrElement, 0, 2},
		{func(a *api.Ack) { a.Control = 1000000000 }, edi.ErrElement, 0, 2},
		{func(a *api.Ack) { a.Control = math.MinInt }, edi.ErrElement, 0, 2},
		{func(a *api.Ack) { a.Sets = nil }, edi.ErrTag, 1, 0},
		{func(a *api.Ack) { a.Sets[0].Id = "846" }, edi.ErrElement, 1, 1},
		{func(a *api.Ack) { a.Sets[0].Control = "1" }, edi.ErrElement, 1, 2},
		{func(a *api.Ack) { a.Sets[1].Control = "0001" }, edi.ErrElement, 3, 2},
		{func(a *api.Ack) { a.Sets[0].Segment = 1 }, edi.ErrDocument, 0, 0},
		{func(a *api.Ack) { a.Sets[0].Element = 1 }, edi.ErrDocument, 0, 0},
		{func(a *api.Ack) { a.Sets[0].Element = -1 }, edi.ErrDocument, 0, 0},
		{func(a *api.Ack) { a.Sets[1].Segment = 0 }, nil, 0, 0},
		{func(a *api.Ack) { a.Sets[1].Segment = -1 }, edi.ErrElement, 4, 1},
		{func(a *api.Ack) { a.Sets[1].Segment = -2 }, edi.ErrElement, 4, 1},
		{func(a *api.Ack) { a.Sets[1].Segment = 99997 }, nil, 0, 0},
		{func(a *api.Ack) { a.Sets[1].Segment = 99998 }, edi.ErrElement, 4, 1},
		{func(a *api.Ack) { a.Sets[1].Segment = math.MaxInt }, edi.ErrElement, 4, 1},
		{func(a *api.Ack) { a.Sets[1].Segment = math.MinInt }, edi.ErrElement, 4, 1},
		{func(a *api.Ack) { a.Sets[1].Element = 0 }, nil, 0, 0},
		{func(a *api.Ack) { a.Sets[1].Element = -1 }, edi.ErrElement, 4, 2},
		{func(a *api.Ack) { a.Sets[1].Element = 99999 }, nil, 0, 0},
		{func(a *api.Ack) { a.Sets[1].Element = 100000 }, edi.ErrElement, 4, 2},
		{func(a *api.Ack) { a.Sets[1].Element = math.MinInt }, edi.ErrElement, 4, 2},
		{func(a *api.Ack) { a.Sets[0].Ok = false }, nil, 0, 0},
		{func(a *api.Ack) { a.Sets = a.Sets[:1] }, nil, 0, 0},
		{func(a *api.Ack) { a.Sets = many(200) }, nil, 0, 0},
		{func(a *api.Ack) { a.Sets = many(201) }, edi.ErrDocument, 401, 0},
		{func(a *api.Ack) { a.Sets = many(200); a.Sets[199].Segment = 5 }, edi.ErrDocument, 0, 0},
		{func(a *api.Ack) { *a = api.Ack{} }, edi.ErrElement, 0, 1},
	} {
		a := api.Ack{Kind: "PO", Control: 7, Sets: []api.AckSet{{Id: "850", Control: "0001", Ok: true}, {Id: "850", Control: "0002", Segment: 2, Element: 2}}}
		x.change(&a)
		_, err := edi.BuildAck(a, "0009")
		wantFault(t, "BuildAck", err, fault{x.err, x.segment, x.element})
		wantAck(t, a)
	}
}

func TestP5_6ControlIsNotLookedAt(t *testing.T) {
	for _, control := range []string{"", "1", "0001", "x*y~", strings.Repeat("9", 100)} {
		s, err := edi.BuildOrder(api.Order{Number: "N", Date: "20250101", Lines: []api.OrderLine{{Qty: 1, Code: "12345670"}}}, control)
		if err != nil || s.Control != control {
			t.Errorf("%q: %+v, %v", control, s, err)
		}
	}
}
