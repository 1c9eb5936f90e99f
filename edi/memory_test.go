package edi_test

import (
	"reflect"
	"strings"
	"testing"
	"unsafe"

	"larder/api"
	"larder/edi"
)

// Rule R4 and P5.8: what is handed in is neither changed, spare room included, nor kept; answers share no memory.

// roomy is a copy of a value all of whose lists have spare room behind them, with something in it.
func roomy[T any](x T) T {
	v := reflect.New(reflect.TypeOf(x)).Elem()
	copyRoomy(v, reflect.ValueOf(x))
	return v.Interface().(T)
}

func copyRoomy(to, from reflect.Value) {
	switch from.Kind() {
	case reflect.Slice:
		n := from.Len()
		l := reflect.MakeSlice(from.Type(), n+3, n+3)
		for i := range n + 3 {
			if i < n {
				copyRoomy(l.Index(i), from.Index(i))
			} else {
				fill(l.Index(i), i)
			}
		}
		to.Set(l.Slice(0, n))
	case reflect.Struct:
		for i := range from.NumField() {
			copyRoomy(to.Field(i), from.Field(i))
		}
	default:
		to.Set(from)
	}
}

// fill writes something into a value.
func fill(v reflect.Value, mark int) {
	switch v.Kind() {
	case reflect.String:
		v.SetString(strings.Repeat("#", mark+1))
	case reflect.Int:
		v.SetInt(int64(mark) + 1000)
	case reflect.Bool:
		v.SetBool(true)
	case reflect.Slice:
		v.Set(reflect.MakeSlice(v.Type(), 1, 1))
	case reflect.Struct:
		for i := range v.NumField() {
			fill(v.Field(i), mark)
		}
	}
}

// all is a value with the spare room of all its lists laid open.
func all[T any](x T) T {
	v := reflect.New(reflect.TypeOf(x)).Elem()
	copyAll(v, reflect.ValueOf(x))
	return v.Interface().(T)
}

func copyAll(to, from reflect.Value) {
	switch from.Kind() {
	case reflect.Slice:
		from = from.Slice(0, from.Cap())
		l := reflect.MakeSlice(from.Type(), from.Len(), from.Len())
		for i := range from.Len() {
			copyAll(l.Index(i), from.Index(i))
		}
		to.Set(l)
	case reflect.Struct:
		for i := range from.NumField() {
			copyAll(to.Field(i), from.Field(i))
		}
	default:
		to.Set(from)
	}
}

// unchanged calls with a roomy copy, and says whether it stayed as it was.
func unchanged[T any](t *testing.T, name string, x T, call func(x T)) {
	t.Helper()
	given := roomy(x)
	before := all(given)
	call(given)
	if !equal(all(given), before) {
		t.Errorf("%s: what was handed in has changed", name)
	}
}

func someDocuments() (api.Order, api.Advice, api.Ack) {
	return orderSlowly(segments(lines)), adviceSlowly(segments(stock)), ackSlowly(segments(answer))
}

func TestP5_8WhatIsHandedInStays(t *testing.T) {
	wrong := one()
	wrong.Groups[0].Sets[0].Segments[0].Elems[2] = "a*b"
	for _, i := range []api.Interchange{one(), wrong, {}, groups("FA"), groups("PO", "IB", "FA")} {
		unchanged(t, "Print", i, func(i api.Interchange) { edi.Print(i) })
		unchanged(t, "Answer", i, func(i api.Interchange) { edi.Answer(i, 1, "250101", "0000") })
	}
	for id, text := range papers() {
		for _, text := range []string{text, text + "X~", "X~", text[:20] + "~"} {
			s := api.Set{Id: id, Control: "0001", Segments: segments(text)}
			unchanged(t, "Reads", s, func(s api.Set) { edi.ReadOrder(s); edi.ReadAdvice(s); edi.ReadAck(s) })
		}
	}
	o, a, k := someDocuments()
	for range 2 {
		unchanged(t, "BuildOrder", o, func(o api.Order) { edi.BuildOrder(o, "0001") })
		unchanged(t, "BuildAdvice", a, func(a api.Advice) { edi.BuildAdvice(a, "0001") })
		unchanged(t, "BuildAck", k, func(k api.Ack) { edi.BuildAck(k, "0001") })
		o.Lines[0].Qty, a.Lines[0].Free, k.Sets[0].Element = 0, -1, 5
	}
}

// A list that is written over may show in no other list.
type list struct {
	from, to uintptr
	what     string
}

func lists(v reflect.Value, what string) []list {
	var l []list
	switch v.Kind() {
	case reflect.Slice:
		if v.Cap() > 0 {
			from := v.Pointer()
			l = append(l, list{from, from + uintptr(v.Cap())*v.Type().Elem().Size(), what})
		}
		for i := range v.Len() {
			l = append(l, lists(v.Index(i), what+" "+v.Type().String())...)
		}
	case reflect.Struct:
		for i := range v.NumField() {
			l = append(l, lists(v.Field(i), what+"."+v.Type().Field(i).Name)...)
		}
	}
	return l
}

// wantApart says whether no two lists of some values share any memory, spare room included.
func wantApart(t *testing.T, name string, values ...any) {
	t.Helper()
	var l []list
	for _, v := range values {
		l = append(l, lists(reflect.ValueOf(v), name)...)
	}
	for i, a := range l {
		for _, b := range l[:i] {
			if a.from < b.to && b.from < a.to {
				t.Errorf("%s: %s and %s share memory", name, a.what, b.what)
			}
		}
	}
}

func TestP5_8ListsShareNoMemory(t *testing.T) {
	text := laid(groupsWithPapers(), usual)
	one, two := parsed(t, text), parsed(t, text)
	wantApart(t, "Parse", one, two)
	a, _ := edi.Answer(one, 1, "250101", "0000")
	b, _ := edi.Answer(one, 1, "250101", "0000")
	wantApart(t, "Answer", one, a, b)
	order, advice, ack := someDocuments()
	order.Lines = append(order.Lines, order.Lines...)
	advice.Lines = append(advice.Lines, advice.Lines...)
	for range 2 {
		s1, _ := edi.BuildOrder(order, "0001")
		s2, _ := edi.BuildOrder(order, "0001")
		o1, _ := edi.ReadOrder(s1)
		o2, _ := edi.ReadOrder(s1)
		wantApart(t, "order", order, s1, s2, o1, o2)
		s1, _ = edi.BuildAdvice(advice, "0001")
		s2, _ = edi.BuildAdvice(advice, "0001")
		a1, _ := edi.ReadAdvice(s1)
		a2, _ := edi.ReadAdvice(s1)
		wantApart(t, "advice", advice, s1, s2, a1, a2)
		s1, _ = edi.BuildAck(ack, "0001")
		s2, _ = edi.BuildAck(ack, "0001")
		k1, _ := edi.ReadAck(s1)
		k2, _ := edi.ReadAck(s1)
		wantApart(t, "ack", ack, s1, s2, k1, k2)
		if len(o1.Lines) != 2 || len(a1.Lines) != 2 || len(k1.Sets) != 2 {
			t.Error("nothing was read")
		}
	}
}

func groupsWithPapers() api.Interchange {
	i := groups("PO", "IB", "FA", "PO")
	for n, text := range []string{lines, stock, answer, replaced(lines, "CTT*1", "CTT*2")} {
		s := &i.Groups[n].Sets[0]
		s.Segments = append(segments(text), api.Segment{Tag: "AB"}, api.Segment{Tag: "AB", Elems: []string{"x"}})
		i.Groups[n].Sets = append(i.Groups[n].Sets, api.Set{Id: s.Id, Control: "0002", Segments: segments(text)})
	}
	return i
}

// spoilt writes over all lists of an answer, spare room included.
func spoilt(v reflect.Value) {
	switch v.Kind() {
	case reflect.Slice:
		l := v.Slice(0, v.Cap())
		for i := range l.Len() {
			spoilt(l.Index(i))
			fill(l.Index(i), 7)
		}
	case reflect.Struct:
		for i := range v.NumField() {
			spoilt(v.Field(i))
		}
	}
}

func TestP5_8AnswersMayBeWrittenOver(t *testing.T) {
	i := groupsWithPapers()
	text := laid(i, usual)
	o, a, k := someDocuments()
	for range 3 {
		back, err := edi.Parse(text)
		if err != nil || !equal(back, i) {
			t.Fatalf("Parse: %+v, %v", back, err)
		}
		got, err := edi.Answer(i, 1, "250101", "0000")
		if want, _ := answerSlowly(i, 1, "250101", "0000"); err != nil || !equal(got, want) {
			t.Fatalf("Answer: %+v, %v", got, err)
		}
		s1, e1 := edi.BuildOrder(o, "0001")
		s2, e2 := edi.BuildAdvice(a, "0001")
		s3, e3 := edi.BuildAck(k, "0001")
		if e1 != nil || e2 != nil || e3 != nil || !equal(s1.Segments, segments(lines)) || !equal(s2.Segments, segments(stock)) || !equal(s3.Segments, segments(answer)) {
			t.Fatalf("Builds: %+v, %+v, %+v", s1, s2, s3)
		}
		for _, v := range []any{back, got, s1, s2, s3} {
			spoilt(reflect.ValueOf(v))
		}
	}
	if !equal(i, groupsWithPapers()) {
		t.Error("what was handed in shows what was written into answers")
	}
}

func TestP5_8FaultsAreNew(t *testing.T) {
	for range 3 {
		for _, x := range failing() {
			err := x.call()
			wantFault(t, "again", err, x.want)
			*err.(*edi.Fault) = edi.Fault{}
		}
	}
}

// strings are all texts that a value has.
func allTexts(v reflect.Value) []string {
	var l []string
	switch v.Kind() {
	case reflect.String:
		l = append(l, v.String())
	case reflect.Slice:
		for i := range v.Len() {
			l = append(l, allTexts(v.Index(i))...)
		}
	case reflect.Struct:
		for i := range v.NumField() {
			l = append(l, allTexts(v.Field(i))...)
		}
	}
	return l
}

func within(text, whole string) bool {
	at, from := uintptr(unsafe.Pointer(unsafe.StringData(text))), uintptr(unsafe.Pointer(unsafe.StringData(whole)))
	return len(text) > 0 && at >= from && at < from+uintptr(len(whole))
}

// wantOwnTexts says whether no text of an answer lies in one that was handed in.
func wantOwnTexts(t *testing.T, name string, given, got any) {
	t.Helper()
	for _, a := range allTexts(reflect.ValueOf(given)) {
		for _, b := range allTexts(reflect.ValueOf(got)) {
			if within(b, a) {
				t.Errorf("%s: %q lies in what was handed in", name, b)
			}
		}
	}
}

// cloned gives a value texts of its own, none of which the program has.
func cloned[T any](x T) T {
	v := reflect.New(reflect.TypeOf(x)).Elem()
	copyPlain(v, reflect.ValueOf(x))
	cloneTexts(v)
	return v.Interface().(T)
}

func cloneTexts(v reflect.Value) {
	switch v.Kind() {
	case reflect.String:
		v.SetString(strings.Clone(v.String()))
	case reflect.Slice:
		for i := range v.Len() {
			cloneTexts(v.Index(i))
		}
	case reflect.Struct:
		for i := range v.NumField() {
			cloneTexts(v.Field(i))
		}
	}
}

func TestP5_8TextsAreNotKept(t *testing.T) {
	i := cloned(groupsWithPapers())
	text := laid(i, usual)
	wantOwnTexts(t, "Parse", text, parsed(t, text))
	printed, _ := edi.Print(i)
	wantOwnTexts(t, "Print", i, printed)
	date, time := strings.Clone("250101"), strings.Clone("0000")
	got, err := edi.Answer(i, 1, date, time)
	if err != nil {
		t.Fatal(err)
	}
	wantOwnTexts(t, "Answer", i, got)
	wantOwnTexts(t, "Answer", []string{date, time}, got)
	o, a, k := someDocuments()
	o, a, k = cloned(o), cloned(a), cloned(k)
	control := strings.Clone("0001")
	s1, _ := edi.BuildOrder(o, control)
	s2, _ := edi.BuildAdvice(a, control)
	s3, _ := edi.BuildAck(k, control)
	for name, x := range map[string][2]any{"BuildOrder": {o, s1}, "BuildAdvice": {a, s2}, "BuildAck": {k, s3}, "order's control": {control, s1}, "advice's control": {control, s2}, "ack's control": {control, s3}} {
		wantOwnTexts(t, name, x[0], x[1])
	}
	s1, s2, s3 = cloned(s1), cloned(s2), cloned(s3)
	o, _ = edi.ReadOrder(s1)
	a, _ = edi.ReadAdvice(s2)
	k, _ = edi.ReadAck(s3)
	wantOwnTexts(t, "ReadOrder", s1, o)
	wantOwnTexts(t, "ReadAdvice", s2, a)
	wantOwnTexts(t, "ReadAck", s3, k)
}

func TestR3NilAndEmpty(t *testing.T) {
	for _, l := range [][]api.Group{nil, {}} {
		wantPrintFault(t, "no groups", func(i *api.Interchange) { i.Groups = l }, edi.ErrTag, 1, 0)
	}
	for _, l := range [][]api.Set{nil, {}} {
		wantPrintFault(t, "no sets", func(i *api.Interchange) { i.Groups[0].Sets = l }, edi.ErrTag, 2, 0)
	}
	for _, l := range [][]api.Segment{nil, {}} {
		i := one()
		i.Groups[0].Sets[0].Segments = l
		if _, err := edi.Print(i); err != nil {
			t.Errorf("no segments: %v", err)
		}
		wantReads(t, api.Set{Id: "850", Segments: l})
	}
	for _, l := range [][]string{nil, {}} {
		i := one()
		i.Groups[0].Sets[0].Segments = []api.Segment{{Tag: "AB", Elems: l}}
		if _, err := edi.Print(i); err != nil {
			t.Errorf("no elements: %v", err)
		}
		wantReads(t, api.Set{Id: "850", Segments: []api.Segment{{Tag: "BEG", Elems: l}}})
	}
	for _, l := range [][]api.OrderLine{nil, {}} {
		wantOrder(t, api.Order{Number: "N", Date: "20250101", Lines: l})
	}
	for _, l := range [][]api.AdviceLine{nil, {}} {
		wantAdvice(t, api.Advice{Number: "N", Date: "20250101", Lines: l})
	}
	for _, l := range [][]api.AckSet{nil, {}} {
		wantAck(t, api.Ack{Kind: "PO", Control: 1, Sets: l})
	}
}
