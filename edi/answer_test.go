package edi_test

import (
	"fmt"
	"math"
	"math/rand"
	"slices"
	"strings"
	"testing"

	"larder/api"
	"larder/edi"
)

// answerSlowly makes the acknowledgement with the slow Reads.
func answerSlowly(i api.Interchange, control int, date, time string) (api.Interchange, fault) {
	if _, f := printSlowly(i); f != (fault{}) {
		return api.Interchange{}, f
	}
	g := api.Group{Kind: "FA", From: i.To, To: i.From, Date: "20" + date, Time: time, Control: control}
	for _, x := range i.Groups {
		p := map[string]func() paper{"PO": orders, "IB": advices}[x.Kind]
		if p == nil {
			continue
		}
		if len(x.Sets) > 200 {
			return api.Interchange{}, fault{edi.ErrDocument, 0, 0}
		}
		a := api.Ack{Kind: x.Kind, Control: x.Control}
		for _, s := range x.Sets {
			f := p().readSlowly(s)
			a.Sets = append(a.Sets, api.AckSet{Id: s.Id, Control: s.Control, Ok: f == fault{}, Segment: f.segment, Element: f.element})
		}
		g.Sets = append(g.Sets, api.Set{Id: "997", Control: fmt.Sprintf("%04d", len(g.Sets)+1), Segments: segments(ackText(a))})
	}
	if len(g.Sets) == 0 {
		return api.Interchange{}, fault{edi.ErrDocument, 0, 0}
	}
	answer := api.Interchange{From: i.To, To: i.From, Date: date, Time: time, Control: control, Test: i.Test, Groups: []api.Group{g}}
	if _, f := printSlowly(answer); f != (fault{}) {
		return api.Interchange{}, f
	}
	return answer, fault{}
}

func wantAnswer(t *testing.T, name string, i api.Interchange, control int, date, time string) fault {
	t.Helper()
	want, f := answerSlowly(i, control, date, time)
	if got, err := edi.Answer(i, control, date, time); told(err) != f || !equal(got, want) {
		t.Errorf("%s: %+v, %v, want %+v, %v", name, got, told(err), want, f)
	}
	return f
}

func wantAnswerFault(t *testing.T, name string, i api.Interchange, control int, date, time string, want fault) {
	t.Helper()
	if f := wantAnswer(t, name, i, control, date, time); f != want {
		t.Errorf("%s: %v, want %v", name, f, want)
	}
}

func TestP5_7Answers(t *testing.T) {
	i := one()
	i.Test = true
	a, err := edi.Answer(i, 88, "260101", "0800")
	want := api.Interchange{From: "B", To: "A", Date: "260101", Time: "0800", Control: 88, Test: true, Groups: []api.Group{{Kind: "FA", From: "B", To: "A", Date: "20260101", Time: "0800", Control: 88, Sets: []api.Set{{Id: "997", Control: "0001", Segments: segments("AK1*PO*7~AK2*850*0001~AK5*A~AK9*A*1*1*1~")}}}}}
	if err != nil || !equal(a, want) {
		t.Errorf("%+v, %v", a, err)
	}
	text := head + order + "GS*FA*A*B*20251231*2359*8*X*005010~ST*997*0001~SE*2*0001~GE*1*8~" +
		"GS*IB*A*B*20251231*2359*9*X*005010~ST*846*0001~SE*2*0001~ST*846*0002~" + stock + "SE*7*0002~ST*846*0003~" + replaced(stock, "*33*", "*44*") + "SE*7*0003~GE*3*9~IEA*3*000000007~"
	a, err = edi.Answer(parsed(t, text), 1, "240229", "2359")
	if err != nil || len(a.Groups) != 1 || len(a.Groups[0].Sets) != 2 {
		t.Fatalf("%+v, %v", a, err)
	}
	first, second := a.Groups[0].Sets[0], a.Groups[0].Sets[1]
	if !equal(first, api.Set{Id: "997", Control: "0001", Segments: segments("AK1*PO*7~AK2*850*0001~AK5*A~AK9*A*1*1*1~")}) {
		t.Errorf("%+v", first)
	}
	if !equal(second, api.Set{Id: "997", Control: "0002", Segments: segments("AK1*IB*9~AK2*846*0001~AK3*2*0~AK5*R~AK2*846*0002~AK5*A~AK2*846*0003~AK3*5*1~AK5*R~AK9*P*3*3*1~")}) {
		t.Errorf("%+v", second)
	}
}

func TestP5_7FaultsOfWhatCame(t *testing.T) {
	i := one()
	i.Groups[0].Sets[0].Segments[0].Elems[2] = "a^b"
	wantAnswerFault(t, "an element", i, 0, "", "", fault{edi.ErrElement, 3, 3})
	i.Groups = nil
	wantAnswerFault(t, "no groups", i, 1, "250101", "0000", fault{edi.ErrTag, 1, 0})
	wantAnswerFault(t, "nothing", api.Interchange{}, 1, "250101", "0000", fault{edi.ErrSeparator, 0, 0})
	i = one()
	i.From = "A "
	wantAnswerFault(t, "another one", i, 1, "250101", "0000", fault{edi.ErrElement, 0, 0})
}

func TestP5_7FaultsOfTheAnswer(t *testing.T) {
	for _, x := range []struct {
		control    int
		date, time string
		want       fault
	}{
		{1, "250101", "0000", fault{}},
		{999999999, "000229", "2359", fault{}},
		{0, "250101", "0000", fault{edi.ErrElement, 0, 13}},
		{-1, "250101", "0000", fault{edi.ErrElement, 0, 13}},
		{1000000000, "250101", "0000", fault{edi.ErrSeparator, 0, 0}},
		{math.MinInt, "250101", "0000", fault{edi.ErrSeparator, 0, 0}},
		{1, "250229", "0000", fault{edi.ErrElement, 0, 9}},
		{1, "250100", "0000", fault{edi.ErrElement, 0, 9}},
		{1, "", "0000", fault{edi.ErrSeparator, 0, 0}},
		{1, "20250101", "0000", fault{edi.ErrSeparator, 0, 0}},
		{1, "250101", "2360", fault{edi.ErrElement, 0, 10}},
		{1, "250101", "2400", fault{edi.ErrElement, 0, 10}},
		{1, "250101", "", fault{edi.ErrSeparator, 0, 0}},
		{0, "25010x", "2400", fault{edi.ErrElement, 0, 9}},
		{1, strings.Repeat("x", 70000), "0000", fault{edi.ErrLong, 0, 0}},
	} {
		wantAnswerFault(t, fmt.Sprint(x.control, " ", x.date, " ", x.time), one(), x.control, x.date, x.time, x.want)
	}
}

// sets are so many without segments; all of them are refused.
func sets(kind string, n int) []api.Set {
	var l []api.Set
	for i := range n {
		l = append(l, api.Set{Id: idOf(kind), Control: fmt.Sprintf("%04d", i)})
	}
	return l
}

func groups(kinds ...string) api.Interchange {
	i := one()
	i.Groups = nil
	for n, kind := range kinds {
		i.Groups = append(i.Groups, api.Group{Kind: kind, From: "C", To: "D", Date: "20250101", Time: "0000", Control: n + 1, Sets: sets(kind, 1)})
	}
	return i
}

func TestP5_7KindsOfGroups(t *testing.T) {
	none := fault{edi.ErrDocument, 0, 0}
	wantAnswerFault(t, "FA alone", groups("FA"), 1, "250101", "0000", none)
	wantAnswerFault(t, "FA alone", groups("FA", "FA", "FA"), 1, "250101", "0000", none)
	wantAnswerFault(t, "FA alone ahead of the answer's faults", groups("FA"), 0, "", "", none)
	wantAnswerFault(t, "all kinds", groups("FA", "PO", "FA", "IB", "PO"), 1, "250101", "0000", fault{})
	a, _ := edi.Answer(groups("PO"), 5, "250101", "0000")
	wantAnswerFault(t, "an answer to an answer", a, 6, "250101", "0000", none)
}

func TestP5_7ManySets(t *testing.T) {
	none := fault{edi.ErrDocument, 0, 0}
	i := groups("PO", "IB", "FA")
	i.Groups[2].Sets = sets("FA", 300)
	wantAnswerFault(t, "300 of FA", i, 1, "250101", "0000", fault{})
	i.Groups[1].Sets = sets("IB", 200)
	wantAnswerFault(t, "200", i, 1, "250101", "0000", fault{})
	i.Groups[1].Sets = sets("IB", 201)
	wantAnswerFault(t, "201", i, 1, "250101", "0000", none)
	wantAnswerFault(t, "201 ahead of the answer's faults", i, 0, "", "", none)
	i = groups("PO")
	i.Groups[0].Sets = sets("PO", 201)
	wantAnswerFault(t, "201 of PO", i, 1, "250101", "0000", none)
}

// An answer may be longer than what it answers: it has a little more for each refused set.
func TestP5_7LongAnswers(t *testing.T) {
	i := groups(slices.Repeat([]string{"PO"}, 13)...)
	for n := range i.Groups {
		i.Groups[n].Sets = sets("PO", 200)
	}
	text, err := edi.Print(i)
	if err != nil {
		t.Fatal(err)
	}
	_, err = edi.Answer(i, 1, "250101", "0000")
	if got := told(err); got != (fault{edi.ErrLong, 0, 0}) {
		t.Errorf("%d bytes: %v", len(text), got)
	}
	i.Groups = i.Groups[:11]
	a, err := edi.Answer(i, 1, "250101", "0000")
	if err != nil || len(a.Groups[0].Sets) != 11 {
		t.Errorf("%d sets, %v", len(a.Groups), err)
	}
	many := groups(slices.Repeat([]string{"IB"}, 900)...)
	a, err = edi.Answer(many, 1, "250101", "0000")
	if err != nil || len(a.Groups[0].Sets) != 900 || a.Groups[0].Sets[899].Control != "0900" {
		t.Errorf("900 groups: %d, %v", len(a.Groups), err)
	}
}

// someBusiness is an interchange with documents, some of them spoilt.
func someBusiness(r *rand.Rand) api.Interchange {
	i := some(r, usual)
	for n := range i.Groups {
		for m := range i.Groups[n].Sets {
			s := &i.Groups[n].Sets[m]
			l := segments(map[string]func() string{
				"850": func() string { return orderText(someOrder(r, 1+r.Intn(3))) },
				"846": func() string { return adviceText(someAdvice(r, 1+r.Intn(3))) },
				"997": func() string { return ackText(someAck(r, 1+r.Intn(3))) },
			}[s.Id]())
			if r.Intn(2) == 0 {
				l = spoilSet(r, l)
			}
			s.Segments = l
		}
	}
	return i
}

func TestP5_7AnswersOfChance(t *testing.T) {
	r := rand.New(rand.NewSource(570))
	for range 2000 {
		i := someBusiness(r)
		f := wantAnswer(t, "chance", i, 1+r.Intn(999999999), "250101", "0000")
		if t.Failed() {
			return
		}
		if f != (fault{}) {
			continue
		}
		a, _ := edi.Answer(i, 7, "250101", "0000")
		text, err := edi.Print(a)
		if err != nil || text != laid(a, usual) {
			t.Fatalf("Print of the answer: %v", err)
		}
		for _, s := range a.Groups[0].Sets {
			if _, err := edi.ReadAck(s); err != nil {
				t.Fatalf("ReadAck of the answer: %v", err)
			}
		}
	}
}
