package edi_test

import (
	"errors"
	"math"
	"strconv"
	"strings"
	"testing"

	"larder/api"
	"larder/edi"
)

func TestP5_1VariablesAreUnlike(t *testing.T) {
	l := variables()
	for i, a := range l {
		for j, b := range l {
			if a == nil || errors.Is(a, b) != (i == j) {
				t.Errorf("%d and %d: %v, %v", i, j, a, b)
			}
		}
	}
}

// failing has for each variable calls that answer it.
func failing() []struct {
	want fault
	call func() error
} {
	parse := func(text string) func() error {
		return func() error { _, err := edi.Parse(text); return err }
	}
	print := func(change func(i *api.Interchange)) func() error {
		return func() error { i := one(); change(&i); _, err := edi.Print(i); return err }
	}
	read := func(text string) func() error {
		return func() error {
			_, err := edi.ReadOrder(api.Set{Id: "850", Segments: segments(text)})
			return err
		}
	}
	return []struct {
		want fault
		call func() error
	}{
		{fault{edi.ErrLong, 0, 0}, parse(strings.Repeat("x", 65537))},
		{fault{edi.ErrLong, 0, 0}, print(func(i *api.Interchange) { i.From = strings.Repeat("x", 65537) })},
		{fault{edi.ErrShort, 0, 0}, parse("")},
		{fault{edi.ErrShort, 1, 0}, parse(head)},
		{fault{edi.ErrTail, 9, 0}, parse(whole + "x")},
		{fault{edi.ErrHead, 0, 0}, parse("x")},
		{fault{edi.ErrHead, 0, 4}, parse(head[:20] + "x" + head[21:])},
		{fault{edi.ErrSeparator, 0, 0}, parse(replaced(head, "^", "*"))},
		{fault{edi.ErrTag, 1, 0}, parse(head + end)},
		{fault{edi.ErrTag, 1, 0}, print(func(i *api.Interchange) { i.Groups = nil })},
		{fault{edi.ErrTag, 3, 0}, read(lines + "CTT*1*5~")},
		{fault{edi.ErrElement, 1, 8}, parse(replaced(whole, "005010", "005011"))},
		{fault{edi.ErrElement, 0, 0}, print(func(i *api.Interchange) { i.From = "A " })},
		{fault{edi.ErrElement, 1, 7}, read(replaced(lines, "0213", "0214"))},
		{fault{edi.ErrCount, 6, 1}, parse(replaced(whole, "SE*5", "SE*6"))},
		{fault{edi.ErrCount, 2, 2}, read(replaced(lines, "CTT*1*5", "CTT*1*6"))},
		{fault{edi.ErrControl, 7, 2}, parse(replaced(whole, "GE*1*7", "GE*1*8"))},
		{fault{edi.ErrSet, 2, 1}, parse(replaced(whole, "ST*850", "ST*846"))},
		{fault{edi.ErrSet, 0, 0}, func() error { _, err := edi.ReadAck(one().Groups[0].Sets[0]); return err }},
		{fault{edi.ErrDocument, 0, 0}, func() error {
			_, err := edi.BuildAck(api.Ack{Kind: "PO", Control: 1, Sets: []api.AckSet{{Id: "850", Control: "0001", Ok: true, Element: 1}}}, "0001")
			return err
		}},
		{fault{edi.ErrDocument, 0, 0}, func() error {
			_, err := edi.Answer(parsedSlowly(replaced(replaced(whole, "GS*PO", "GS*FA"), "ST*850", "ST*997")), 1, "250101", "0000")
			return err
		}},
	}
}

func parsedSlowly(text string) api.Interchange {
	i, f := parseSlowly(text)
	if f != (fault{}) {
		panic(f)
	}
	return i
}

func TestP5_1EveryErrorIsAFaultOfOneVariable(t *testing.T) {
	for _, x := range failing() {
		err := x.call()
		wantFault(t, x.want.String(), err, x.want)
		count := 0
		for _, v := range variables() {
			if errors.Is(err, v) {
				count++
			}
		}
		var f *edi.Fault
		if count != 1 || !errors.As(err, &f) || f.Err != x.want.err {
			t.Errorf("%v: errors.Is holds for %d variables; %+v", x.want, count, f)
		}
	}
}

func TestP5_1Texts(t *testing.T) {
	for _, x := range failing() {
		want := "segment " + strconv.Itoa(x.want.segment) + " element " + strconv.Itoa(x.want.element) + ": " + x.want.err.Error()
		if got := x.call().Error(); got != want {
			t.Errorf("%q, want %q", got, want)
		}
	}
	lost := errors.New("lost")
	for _, x := range []struct {
		fault *edi.Fault
		text  string
	}{
		{nil, ""},
		{&edi.Fault{}, "segment 0 element 0: "},
		{&edi.Fault{Segment: -1, Element: -20, Err: lost}, "segment -1 element -20: lost"},
		{&edi.Fault{Segment: math.MaxInt, Element: math.MinInt, Err: lost}, "segment 9223372036854775807 element -9223372036854775808: lost"},
		{&edi.Fault{Segment: 1, Element: 2, Err: &edi.Fault{Segment: 3, Err: lost}}, "segment 1 element 2: segment 3 element 0: lost"},
		{&edi.Fault{Segment: 1, Element: 2, Err: (*edi.Fault)(nil)}, "segment 1 element 2: "},
	} {
		if got := x.fault.Error(); got != x.text {
			t.Errorf("%q, want %q", got, x.text)
		}
	}
}

func TestP5_1Unwrap(t *testing.T) {
	lost := errors.New("lost")
	for _, x := range []struct {
		fault *edi.Fault
		want  error
	}{{nil, nil}, {&edi.Fault{}, nil}, {&edi.Fault{Segment: 1, Err: lost}, lost}} {
		if got := x.fault.Unwrap(); got != x.want {
			t.Errorf("%#v: %v, want %v", x.fault, got, x.want)
		}
	}
}

func TestP5_1NothingBesideAnError(t *testing.T) {
	i := one()
	if got, err := edi.Parse(whole + "x"); err == nil || !equal(got, api.Interchange{}) {
		t.Errorf("Parse: %v, %v", got, err)
	}
	i.From = "A "
	if got, err := edi.Print(i); err == nil || got != "" {
		t.Errorf("Print: %q, %v", got, err)
	}
	if got, err := edi.Answer(i, 1, "250101", "0000"); err == nil || !equal(got, api.Interchange{}) {
		t.Errorf("Answer of a fault: %v, %v", got, err)
	}
	if got, err := edi.Answer(one(), 0, "250101", "0000"); err == nil || !equal(got, api.Interchange{}) {
		t.Errorf("Answer with a fault: %v, %v", got, err)
	}
	if got, err := edi.ReadOrder(api.Set{Id: "850", Segments: segments(lines + "X~")}); err == nil || !equal(got, api.Order{}) {
		t.Errorf("ReadOrder: %v, %v", got, err)
	}
	if got, err := edi.ReadAdvice(api.Set{Id: "846", Segments: segments(stock + "X~")}); err == nil || !equal(got, api.Advice{}) {
		t.Errorf("ReadAdvice: %v, %v", got, err)
	}
	if got, err := edi.ReadAck(api.Set{Id: "997", Segments: segments(answer + "X~")}); err == nil || !equal(got, api.Ack{}) {
		t.Errorf("ReadAck: %v, %v", got, err)
	}
	if got, err := edi.BuildOrder(api.Order{Number: "N", Date: "20250101"}, "0001"); err == nil || !equal(got, api.Set{}) {
		t.Errorf("BuildOrder: %v, %v", got, err)
	}
	if got, err := edi.BuildAdvice(api.Advice{Number: "N", Date: "20250101"}, "0001"); err == nil || !equal(got, api.Set{}) {
		t.Errorf("BuildAdvice: %v, %v", got, err)
	}
	for _, x := range []api.AckSet{{Id: "850", Control: "0001", Ok: true, Segment: 1}, {Id: "850", Control: "1"}} {
		if got, err := edi.BuildAck(api.Ack{Kind: "PO", Control: 1, Sets: []api.AckSet{x}}, "0001"); err == nil || !equal(got, api.Set{}) {
			t.Errorf("BuildAck: %v, %v", got, err)
		}
	}
}
