package desk_test

import (
	"errors"
	"fmt"
	"strings"
	"testing"

	"larder/api"
	"larder/desk"
	"larder/edi"
)

// Interchanges.

func ordered(code string, qty int) api.OrderLine {
	return api.OrderLine{Qty: qty, Cents: 250, Code: code}
}

// order answers the set of a purchase order.
func order(t *testing.T, number, control string, lines ...api.OrderLine) api.Set {
	t.Helper()
	s, err := edi.BuildOrder(api.Order{Number: number, Date: "20260101", Lines: lines}, control)
	if err != nil {
		t.Fatalf("BuildOrder: %v", err)
	}
	return s
}

// spoilt answers a set whose count of lines is wrong.
func spoilt(s api.Set) api.Set {
	last := &s.Segments[len(s.Segments)-1]
	last.Elems = append([]string{"199"}, last.Elems[1:]...)
	return s
}

func group(kind string, control int, sets ...api.Set) api.Group {
	return api.Group{Kind: kind, From: "SHOP", To: "HERE", Date: "20260101", Time: "1200", Control: control, Sets: sets}
}

func letter(t *testing.T, groups ...api.Group) string {
	t.Helper()
	text, err := edi.Print(api.Interchange{From: "SHOP", To: "HERE", Date: "260101", Time: "1200", Control: 9, Groups: groups})
	if err != nil {
		t.Fatalf("edi.Print: %v", err)
	}
	return text
}

// one answers an interchange of one order.
func one(t *testing.T, number string, lines ...api.OrderLine) string {
	t.Helper()
	return letter(t, group("PO", 1, order(t, number, "0001", lines...)))
}

// taken answers what came of a Take: the acknowledgement, and the advices, if there are any.
func taken(t *testing.T, d *desk.Desk, text string) (api.Interchange, []api.Advice) {
	t.Helper()
	answer, err := d.Take(text)
	if err != nil {
		t.Fatalf("Take(%.300q): %v", text, err)
	}
	return papers(t, answer)
}

// papers reads what Take answers: lines that are interchanges in their one form.
func papers(t *testing.T, answer string) (api.Interchange, []api.Advice) {
	t.Helper()
	lines := strings.Split(answer, "\n")
	if len(lines) < 2 || len(lines) > 3 || lines[len(lines)-1] != "" {
		t.Fatalf("not one or two lines: %q", answer)
	}
	ack := parsed(t, lines[0])
	want(t, "groups", len(ack.Groups), 1)
	want(t, "kind", ack.Groups[0].Kind, "FA")
	if len(lines) == 2 {
		return ack, nil
	}
	i := parsed(t, lines[1])
	want(t, "groups", len(i.Groups), 1)
	g := i.Groups[0]
	want(t, "kind", g.Kind, "IB")
	if i.From != ack.From || i.To != ack.To || i.Control != ack.Control || i.Test != ack.Test || g.Control != i.Control || g.From != i.From || g.To != i.To || g.Time != i.Time || g.Date[2:] != i.Date {
		t.Errorf("the advice's envelope: %s; the acknowledgement's: %s", show(i), show(ack))
	}
	var l []api.Advice
	for n, s := range g.Sets {
		want(t, "control", s.Control, fmt.Sprintf("%04d", n+1))
		a, err := edi.ReadAdvice(s)
		if err != nil {
			t.Fatalf("ReadAdvice(%s): %v", show(s), err)
		}
		want(t, "its day", a.Date, g.Date)
		l = append(l, a)
	}
	return ack, l
}

func parsed(t *testing.T, text string) api.Interchange {
	t.Helper()
	i, err := edi.Parse(text)
	if err != nil {
		t.Fatalf("edi.Parse(%.300q): %v", text, err)
	}
	if again, err := edi.Print(i); again != text || err != nil {
		t.Errorf("not in its one form: %q, %q, %v", text, again, err)
	}
	return i
}

func advised(number string, lines ...api.AdviceLine) api.Advice {
	return api.Advice{Number: number, Date: "19700101", Lines: lines}
}

func wantAdvices(t *testing.T, name string, got []api.Advice, wanted ...api.Advice) {
	t.Helper()
	if !equal(got, wanted) {
		t.Errorf("%s: %s, want %s", name, show(got), show(wanted))
	}
}

// stocked answers a shop with 9 and 5 of its goods.
func stocked(t *testing.T, c api.Config) *desk.Desk {
	t.Helper()
	d := opened(t, c)
	do(t, d, "@1 restock r "+goodA+" 9 "+goodB+" 5\nrun\n")
	return d
}

// TestP18_4_Held: an order is held, acknowledged, and what is there then is advised.
func TestP18_4_Held(t *testing.T) {
	d := stocked(t, plain())
	ack, advices := taken(t, d, one(t, "N-1", ordered(goodA, 4), ordered(goodB, 5)))
	if ack.From != "HERE" || ack.To != "SHOP" || ack.Control != 1 || ack.Date != "700101" || ack.Time != "0000" || ack.Test {
		t.Errorf("%s", show(ack))
	}
	if a, err := edi.ReadAck(ack.Groups[0].Sets[0]); err != nil || !equal(a, api.Ack{Kind: "PO", Control: 1, Sets: []api.AckSet{{Id: "850", Control: "0001", Ok: true}}}) {
		t.Errorf("%s, %v", show(a), err)
	}
	wantAdvices(t, "advice", advices, advised("N-1", api.AdviceLine{Code: goodA, OnHand: 9, Free: 5}, api.AdviceLine{Code: goodB, OnHand: 5, Free: 0}))
	wantDo(t, d, "holds\ncheck\n", "2 holds 1\nSHOP-N-1 604800 "+goodA+" 4 "+goodB+" 5\n3 check OK 2 1\n")
	// The request is as the order says.
	ops := d.Story().Ops
	if r := ops[len(ops)-1].Request; !equal(r, api.Request{Id: "SHOP-N-1", Kind: api.KindHold, Ttl: 604800, Lines: []api.Line{{Code: goodA, Qty: 4}, {Code: goodB, Qty: 5}}}) {
		t.Errorf("%s", show(r))
	}
}

// TestP18_4_Again: the same interchange again is the same hold; another order of that number is none.
func TestP18_4_Again(t *testing.T) {
	d := stocked(t, plain())
	text := one(t, "N-1", ordered(goodA, 4))
	for n := 1; n <= 3; n++ {
		ack, advices := taken(t, d, text)
		want(t, "control", ack.Control, n)
		wantAdvices(t, "advice", advices, advised("N-1", api.AdviceLine{Code: goodA, OnHand: 9, Free: 5}))
		want(t, "effects", d.State().Lsn, 2)
	}
	_, advices := taken(t, d, one(t, "N-1", ordered(goodA, 3)))
	wantAdvices(t, "another order", advices, advised("N-1", api.AdviceLine{Code: goodA, OnHand: 9, Free: 5}))
	wantDo(t, d, "holds\n", "2 holds 1\nSHOP-N-1 604800 "+goodA+" 4\n")
	want(t, "effects", d.State().Lsn, 2)
}

// TestP18_4_NoOrder: interchanges without an order are acknowledged alone; those of acknowledgements alone are not.
func TestP18_4_NoOrder(t *testing.T) {
	d := stocked(t, plain())
	note, _ := edi.BuildAdvice(api.Advice{Number: "V", Date: "20260101", Lines: []api.AdviceLine{{Code: goodA, OnHand: 1, Free: 1}}}, "0001")
	receipt, _ := edi.BuildAck(api.Ack{Kind: "PO", Control: 3, Sets: []api.AckSet{{Id: "850", Control: "0001", Ok: true}}}, "0001")
	ack, advices := taken(t, d, letter(t, group("IB", 4, note)))
	want(t, "sets", len(ack.Groups[0].Sets), 1)
	wantAdvices(t, "no order", advices)
	ack, advices = taken(t, d, letter(t, group("FA", 3, receipt), group("IB", 4, note)))
	want(t, "sets", len(ack.Groups[0].Sets), 1)
	want(t, "control", ack.Control, 2)
	wantAdvices(t, "no order", advices)
	text, err := d.Take(letter(t, group("FA", 3, receipt)))
	if text != "" || !errors.Is(err, edi.ErrDocument) {
		t.Errorf("%q, %v", text, err)
	}
	_, advices = taken(t, d, letter(t, group("FA", 3, receipt), group("PO", 4, order(t, "N", "0007", ordered(goodA, 1))), group("IB", 5, note)))
	wantAdvices(t, "an order between others", advices, advised("N", api.AdviceLine{Code: goodA, OnHand: 9, Free: 8}))
	wantDo(t, d, "holds\n", "2 holds 1\nSHOP-N 604800 "+goodA+" 1\n")
}

// TestP18_4_Refused: orders that the store can't hold, orders that are none, and what is told of them.
func TestP18_4_Refused(t *testing.T) {
	d := stocked(t, single())
	ack, advices := taken(t, d, letter(t, group("PO", 1,
		order(t, "A", "0001", ordered(goodA, 10)),
		spoilt(order(t, "B", "0002", ordered(goodA, 1))),
		order(t, "C", "0003", ordered(goodA, 2), ordered(goodB, 6)),
		order(t, "D", "0004", ordered(goodA, 5), ordered(goodA, 5)),
		order(t, "E", "0005", ordered(goodB, 2), ordered(goodA, 3), ordered(goodB, 1)),
	), group("PO", 2, order(t, "F", "0001", ordered(goodA, 7)), order(t, "E", "0002", ordered(goodA, 1)), order(t, "G", "0003", ordered(goodA, 6)))))
	first, _ := edi.ReadAck(ack.Groups[0].Sets[0])
	if len(first.Sets) != 5 || first.Sets[1].Ok || first.Sets[1].Segment != 2 || first.Sets[1].Element != 1 || !first.Sets[0].Ok || !first.Sets[2].Ok {
		t.Errorf("%s", show(first))
	}
	a, b := api.AdviceLine{Code: goodA, OnHand: 9, Free: 0}, api.AdviceLine{Code: goodB, OnHand: 5, Free: 2}
	wantAdvices(t, "advices", advices, advised("A", a), advised("C", a, b), advised("D", a), advised("E", b, a), advised("F", a), advised("E", a), advised("G", a))
	wantDo(t, d, "holds\n", "2 holds 2\nSHOP-E 604800 "+goodA+" 3 "+goodB+" 3\nSHOP-G 604800 "+goodA+" 6\n")
	wantDo(t, d, "check\n", "3 check OK 8 1\n")
	// Without one that is an order there is no advice.
	ack, advices = taken(t, d, letter(t, group("PO", 1, spoilt(order(t, "B", "0001", ordered(goodA, 1))))))
	wantAdvices(t, "no order", advices)
	if first, _ := edi.ReadAck(ack.Groups[0].Sets[0]); len(first.Sets) != 1 || first.Sets[0].Ok {
		t.Errorf("%s", show(first))
	}
	wantDo(t, d, "check\n", "4 check OK 8 1\n")
}

// TestP18_4_Codes: codes that the store has not, and the same code in several lines; an order of no code of the store's has no set, and the next one the next Control.
func TestP18_4_Codes(t *testing.T) {
	other, another := "4006381333931", "036000291452"
	d := stocked(t, single())
	_, advices := taken(t, d, letter(t, group("PO", 1,
		order(t, "A", "0001", ordered(other, 1)),
		order(t, "B", "0002", ordered(other, 1), ordered(goodB, 1), ordered(another, 1), ordered(goodA, 1), ordered(goodB, 1)),
		order(t, "C", "0003", ordered(another, 1), ordered(other, 2)),
		order(t, "D", "0004", ordered(goodA, 1), ordered(goodA, 2), ordered(goodA, 3)),
		order(t, "E", "0005", ordered("0000"+goodA+"00", 1)),
	)))
	a, b := api.AdviceLine{Code: goodA, OnHand: 9, Free: 3}, api.AdviceLine{Code: goodB, OnHand: 5, Free: 5}
	wantAdvices(t, "advices", advices, advised("B", b, a), advised("D", a))
	wantDo(t, d, "holds\n", "2 holds 1\nSHOP-D 604800 "+goodA+" 6\n")
	_, advices = taken(t, d, letter(t, group("PO", 1, order(t, "A", "0001", ordered(other, 1)))))
	wantAdvices(t, "no code of the store's", advices)
	// More lines than a request may have: nothing is held, and all is advised.
	var many []api.OrderLine
	for range 33 {
		many = append(many, ordered(goodA, 1))
	}
	_, advices = taken(t, d, one(t, "M", many...))
	wantAdvices(t, "many lines", advices, advised("M", a))
	_, advices = taken(t, d, one(t, "L", many[:3]...))
	wantAdvices(t, "few lines", advices, advised("L", api.AdviceLine{Code: goodA, OnHand: 9, Free: 0}))
	wantDo(t, d, "holds\n", "3 holds 2\nSHOP-D 604800 "+goodA+" 6\nSHOP-L 604800 "+goodA+" 3\n")
}

// TestP18_4_Envelope: Test, parties and numbers go through; a set's day is the clock's.
func TestP18_4_Envelope(t *testing.T) {
	d := stocked(t, plain())
	i := parsed(t, one(t, "N", ordered(goodA, 1)))
	i.From, i.To, i.Test = "A23456789012345", "Z", true
	text, err := edi.Print(i)
	if err != nil {
		t.Fatal(err)
	}
	ack, advices := taken(t, d, text)
	if ack.From != "Z" || ack.To != "A23456789012345" || !ack.Test {
		t.Errorf("%s", show(ack))
	}
	want(t, "advices", len(advices), 1)
	// Other separators, and line feeds between the segments, say the same.
	again := opened(t, plain())
	do(t, again, "@1 restock r "+goodA+" 9 "+goodB+" 5\nrun\n")
	other := strings.NewReplacer("*", "|", "^", "!", ":", "?", "~", "'\r\n").Replace(text)
	if x, err := again.Take(other); err != nil || !strings.HasPrefix(x, "ISA*00*          *00*          *ZZ*Z              *ZZ*A23456789012345*") {
		t.Errorf("%q, %v", x, err)
	}
	if x := do(t, again, "holds\n"); x != "2 holds 1\nA23456789012345-N 604800 "+goodA+" 1\n" {
		t.Errorf("%s", x)
	}
	// One whose elements hold what edi.Print writes between them can't be answered.
	x, err := again.Take(strings.Replace(other, "|2.50|", "|2*50|", 1))
	if x != "" || !errors.Is(err, edi.ErrElement) {
		t.Errorf("%q, %v", x, err)
	}
}

// TestP18_4_Clock: the acknowledgement has the clock ahead of the run, the advice that behind it; a clock beyond the calendar stands at its end.
func TestP18_4_Clock(t *testing.T) {
	for _, x := range []struct{ now, day, time string }{
		{"1", "19700101", "0000"}, {"59", "19700101", "0000"}, {"60", "19700101", "0001"}, {"86399", "19700101", "2359"}, {"86400", "19700102", "0000"}, {"2000-02-29T13:05:59Z", "20000229", "1305"},
		{"2026-11-18T00:30+01:00", "20261117", "2330"}, {"2100-03-01T00:00Z", "21000301", "0000"}, {"9999-12-31T23:59:59Z", "99991231", "2359"}, {"253402300799", "99991231", "2359"}, {"253402300800", "99991231", "2359"}, {"549755813888", "99991231", "2359"},
	} {
		d := stocked(t, plain())
		do(t, d, "@1 tick t "+x.now+"\n@2 restock s "+goodB+" 1\n")
		text, err := d.Take(one(t, "N", ordered(goodA, 1)))
		if err != nil {
			t.Fatal(err)
		}
		lines := strings.Split(text, "\n")
		ack, advice := parsed(t, lines[0]), parsed(t, lines[1])
		if ack.Date != "700101" || ack.Time != "0000" || ack.Groups[0].Date != "20700101" {
			t.Errorf("%s: %s", x.now, show(ack))
		}
		a, _ := edi.ReadAdvice(advice.Groups[0].Sets[0])
		if advice.Date != x.day[2:] || advice.Time != x.time || advice.Groups[0].Date != x.day || advice.Groups[0].Time != x.time || a.Date != x.day {
			t.Errorf("%s: %s", x.now, show(advice))
		}
		ack, _ = taken(t, d, one(t, "O", ordered(goodA, 1)))
		if ack.Date != x.day[2:] || ack.Time != x.time {
			t.Errorf("%s: %s", x.now, show(ack))
		}
		// What waited has been done, and its replies told to nobody.
		wantDo(t, d, "run\n", "4 run 0\n")
		want(t, "goods", d.State().Levels[1].OnHand, 6)
	}
}

// TestP18_4_Faults: what edi refuses changes nothing: nothing is run, and the number stays.
func TestP18_4_Faults(t *testing.T) {
	d := stocked(t, plain())
	do(t, d, "@1 restock s "+goodB+" 1\n@2 read q "+goodB+"\npick 1 2\n")
	was := looksOf(d)
	good := one(t, "N", ordered(goodA, 1))
	for _, text := range []string{"", "ISA", "ISB", "x", good[:len(good)-1], good + "X", strings.Replace(good, "PO1*1", "PO1*\x01", 1), strings.Replace(good, "SE*5", "SE*6", 1), good + good, strings.Repeat("ISA", 30000)} {
		x, err := d.Take(text)
		_, wanted := edi.Parse(text)
		if x != "" || wanted == nil || err == nil || err.Error() != wanted.Error() || errors.Unwrap(err) != errors.Unwrap(wanted) {
			t.Errorf("Take(%.100q): %q, %v, want %v", text, x, err, wanted)
		}
	}
	wantSame(t, "interchanges with faults", d, was)
	ack, _ := taken(t, d, good)
	want(t, "control", ack.Control, 1)
	wantDo(t, d, "run\n", "5 run 0\n")
}

// TestP18_4_Control: each interchange that is answered has the next number, of Take and of Advice.
func TestP18_4_Control(t *testing.T) {
	d := stocked(t, plain())
	text := one(t, "N", ordered(goodA, 1))
	for n := 1; n <= 40; n += 2 {
		d.Take("x")
		d.Advice("")
		d.Fill("x")
		ack, _ := taken(t, d, text)
		want(t, "control", ack.Control, n)
		want(t, "its group's", ack.Groups[0].Control, n)
		x, err := d.Advice("S")
		if err != nil {
			t.Fatal(err)
		}
		want(t, "an advice's control", parsed(t, x).Control, n+1)
	}
}

// TestP18_4_TooMuch: levels that no advice can tell: such an order has no set, and without sets there is no advice.
func TestP18_4_TooMuch(t *testing.T) {
	d := opened(t, single())
	do(t, d, "@1 restock r "+goodA+" 1000000000000001 "+goodB+" 1000000000000000\nrun\n")
	_, advices := taken(t, d, letter(t, group("PO", 1, order(t, "A", "0001", ordered(goodA, 1)), order(t, "B", "0002", ordered(goodB, 1)), order(t, "C", "0003", ordered(goodB, 1), ordered(goodA, 1)), order(t, "D", "0004", ordered(goodB, 1)))))
	b := api.AdviceLine{Code: goodB, OnHand: 1000000000000000, Free: 999999999999997}
	wantAdvices(t, "too much", advices, advised("B", b), advised("D", b))
	_, advices = taken(t, d, one(t, "E", ordered(goodA, 1)))
	wantAdvices(t, "too much alone", advices)
	want(t, "holds", len(d.State().Holds), 5)
}

// TestP18_4_TooLong: advices that have no room in one interchange are not told; all is held for all that.
func TestP18_4_TooLong(t *testing.T) {
	codes := trades(200)
	d := opened(t, roomy(3, codes...))
	var script strings.Builder
	for i := 0; i < 200; i += 20 {
		fmt.Fprintf(&script, "@1 restock r%d", i)
		for _, code := range codes[i : i+20] {
			fmt.Fprintf(&script, " %s 999999999999999", code)
		}
		script.WriteString("\n")
	}
	do(t, d, script.String()+"run\n")
	for sets, told := range map[int]int{4: 4, 5: 0} {
		var l []api.Set
		for n := range sets {
			var lines []api.OrderLine
			for _, code := range codes {
				lines = append(lines, ordered(code, 1))
			}
			l = append(l, order(t, fmt.Sprintf("N%d", n), fmt.Sprintf("%04d", n+1), lines...))
		}
		_, advices := taken(t, d, letter(t, group("PO", 1, l...)))
		want(t, fmt.Sprintf("advices of %d orders", sets), len(advices), told)
	}
	_, advices := taken(t, d, one(t, "M", ordered(codes[0], 1)))
	want(t, "advices", len(advices), 1)
	want(t, "holds", len(d.State().Holds), 1)
}

// TestP18_4_Many: as many orders as an interchange holds, at one desk and at many.
func TestP18_4_Many(t *testing.T) {
	var sets []api.Set
	for n := range 200 {
		sets = append(sets, order(t, fmt.Sprintf("N-%d", n), fmt.Sprintf("%04d", n+1), ordered([]string{goodA, goodB}[n%2], 1+n%3)))
	}
	text := letter(t, group("PO", 1, sets...), group("PO", 2, sets[:100]...))
	for _, handlers := range []int{1, 3, 16} {
		tally := map[string]int{}
		p := pairOf(t, roomy(handlers, goodA, goodB), tally)
		p.do("@1 restock r " + goodA + " 250 " + goodB + " 150\nrun\n")
		_, advices := papers(t, p.take(text))
		want(t, "advices", len(advices), 300)
		if tally["an order held"] < 150 || tally["an order not held"] < 20 {
			t.Errorf("%v", tally)
		}
		p.take(text)
		p.do("goods\nholds\ncheck\n")
	}
	// One group more sets than an acknowledgement can tell.
	d := opened(t, single())
	sets = append(sets, order(t, "X", "0201", ordered(goodA, 1)))
	if x, err := d.Take(letter(t, group("PO", 1, sets...))); x != "" || !errors.Is(err, edi.ErrDocument) {
		t.Errorf("%q, %v", x, err)
	}
}

// TestP18_4_Unended: an interchange that the runs do not come to the end of: those orders that wait then wait no more, what is at work goes on, and its reply is told to nobody; a crash tells of neither. The requests of scripts that wait ahead of them go on waiting.
func TestP18_4_Unended(t *testing.T) {
	codes := trades(32)
	c := api.Config{Codes: codes, Stripes: 64, Handlers: 16, Sectors: 3500, Slot: 900}
	var sets []api.Set
	for n := range 54 {
		var lines []api.OrderLine
		for _, code := range codes {
			lines = append(lines, ordered(code, 1))
		}
		sets = append(sets, order(t, fmt.Sprintf("N-%d", n), fmt.Sprintf("%04d", n+1), lines...))
	}
	text := letter(t, group("PO", 1, sets...))
	script := "@1 restock r"
	for _, code := range codes {
		script += " " + code + " 100"
	}
	tally := map[string]int{}
	for _, ending := range []string{"run\nholds\ncheck\n", "crash\ncheck\n", "pick 1 50\ncrash keep 0 1 2\ncheck\n", "@1 read q " + codes[0] + "\n@2 save s\ncrash torn 0 64\nholds\ncheck\n", "@1 read q " + codes[0] + "\nmix 1 31 50000\nrun\ncheck\n"} {
		for _, ahead := range []int{0, 3, 8} {
			if ahead == 3 && ending[:3] != "run" {
				continue
			}
			p := pairOf(t, c, tally)
			p.do(script + "\nrun\n")
			for n := range 16 {
				p.do(strings.Repeat(fmt.Sprintf("@%d tick t%d 1\n", n+1, n), ahead))
			}
			p.take(text)
			answer := p.do(ending)
			if strings.Contains(answer, "SHOP") && !strings.Contains(ending, "holds") || !strings.Contains(answer, "check OK") {
				t.Errorf("%s: %s", ending, answer)
			}
			if ahead == 8 && !strings.Contains(answer, "@16 t15 ") {
				t.Errorf("nothing of what waited ahead: %s", answer)
			}
			p.take(text)
			p.do("run\nholds\ncheck\n")
		}
	}
	for _, what := range []string{"a document's request that still waited", "a document's request still at work", "a document's reply told to nobody", "a command's reply told to nobody", "a crash while a document's request is at work", "a crash while requests wait"} {
		if tally[what] < 3 {
			t.Errorf("%s: %d times alone", what, tally[what])
		}
	}
}
