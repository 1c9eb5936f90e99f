package edi_test

import (
	"strings"
	"testing"

	"larder/api"
	"larder/edi"
)

func TestExample1(t *testing.T) {
	wantParseFault(t, "1", "", edi.ErrShort, 0, 0)
	wantParseFault(t, "1", "ISB", edi.ErrHead, 0, 0)
	wantParseFault(t, "1", head, edi.ErrShort, 1, 0)
	wantParseFault(t, "1", head+"GS*PO~", edi.ErrElement, 1, 2)
	wantParseFault(t, "1", head+"ST*850*0001~", edi.ErrTag, 1, 0)
}

func TestExample2(t *testing.T) {
	wantParseFault(t, "2", replaced(whole, "SE*5", "SE*4"), edi.ErrCount, 6, 1)
	wantParsed(t, "2", whole, one())
	wantParsed(t, "2", strings.ReplaceAll(whole, "~", "~\n"), one())
	wantParseFault(t, "2", whole+"X", edi.ErrTail, 9, 0)
}

func TestExample3(t *testing.T) {
	o, err := edi.ReadOrder(parsed(t, whole).Groups[0].Sets[0])
	if want := (api.Order{Number: "N-1", Date: "20251231", Lines: []api.OrderLine{{Qty: 5, Cents: 250, Code: "6291041500213"}}}); err != nil || !equal(o, want) {
		t.Errorf("%+v, %v", o, err)
	}
	for _, x := range []struct {
		from, to string
		want     fault
	}{
		{"CTT*1*5", "CTT*1*6", fault{edi.ErrCount, 2, 2}},
		{"6291041500213", "6291041500214", fault{edi.ErrElement, 1, 7}},
		{"*EN*", "*UP*", fault{edi.ErrElement, 1, 6}},
	} {
		_, err := edi.ReadOrder(parsed(t, replaced(whole, x.from, x.to)).Groups[0].Sets[0])
		wantFault(t, x.to, err, x.want)
	}
}

func TestExample4(t *testing.T) {
	o := api.Order{Number: "N-1", Date: "20251231", Lines: []api.OrderLine{{Qty: 5, Cents: 5, Code: "6291041500213"}}}
	if s, err := edi.BuildOrder(o, "0001"); err != nil || s.Segments[1].Elems[3] != "0.05" {
		t.Errorf("%+v, %v", s, err)
	}
	o.Lines[0].Qty = 0
	_, err := edi.BuildOrder(o, "0001")
	wantFault(t, "Qty 0", err, fault{edi.ErrElement, 1, 2})
	o.Lines = nil
	_, err = edi.BuildOrder(o, "0001")
	wantFault(t, "no lines", err, fault{edi.ErrTag, 1, 0})
}

func TestExample5(t *testing.T) {
	a, err := edi.Answer(parsed(t, replaced(whole, "CTT*1*5", "CTT*1*6")), 8, "260101", "0800")
	if err != nil || len(a.Groups) != 1 || len(a.Groups[0].Sets) != 1 {
		t.Fatalf("%+v, %v", a, err)
	}
	if s := a.Groups[0].Sets[0]; !equal(s.Segments, segments("AK1*PO*7~AK2*850*0001~AK3*4*2~AK5*R~AK9*R*1*1*0~")) {
		t.Errorf("%+v", s)
	}
}

func TestExample6(t *testing.T) {
	wantPrintFault(t, "taken", func(i *api.Interchange) { i.Groups[0].Sets[0].Segments[0].Elems[2] = "a*b" }, edi.ErrElement, 0, 0)
	wantPrintFault(t, "not taken", func(i *api.Interchange) { i.Groups[0].Sets[0].Control = "0001*b" }, edi.ErrElement, 2, 3)
}

func TestExample7(t *testing.T) {
	wantPrintFault(t, "no groups", func(i *api.Interchange) { i.Groups = nil }, edi.ErrTag, 1, 0)
}
