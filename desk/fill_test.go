package desk_test

import (
	"errors"
	"fmt"
	"strings"
	"testing"

	"larder/api"
	"larder/desk"
	"larder/sheet"
)

const heads = "id,what,code,qty,hold,ttl,now\r\n"

// filled answers what came of a sheet: its rows without the head.
func filled(t *testing.T, d *desk.Desk, text string) []string {
	t.Helper()
	answer, err := d.Fill(text)
	if err != nil {
		t.Fatalf("Fill(%.300q): %v", text, err)
	}
	rows, err := sheet.Parse(answer)
	if again, e := sheet.Print(rows); err != nil || e != nil || again != answer {
		t.Fatalf("not in its one form: %q, %v", answer, err)
	}
	rest, ok := strings.CutPrefix(answer, "id,what,answer,line,now\r\n")
	if !ok {
		t.Fatalf("%q", answer)
	}
	return strings.Split(strings.TrimSuffix(rest, "\r\n"), "\r\n")
}

func wantFilled(t *testing.T, d *desk.Desk, text string, rows ...string) {
	t.Helper()
	if got := filled(t, d, text); !equal(got, rows) {
		t.Errorf("Fill(%.400q):\n%s\nwant\n%s", text, strings.Join(got, "\n"), strings.Join(rows, "\n"))
	}
}

// TestP18_5_Kinds: each word is a request's Kind, any other one Kind 0; what the answer tells.
func TestP18_5_Kinds(t *testing.T) {
	d := opened(t, single())
	wantFilled(t, d, heads+
		"r,restock,"+goodA+",9,,,\r\nr,restock,"+goodB+",5,,,\r\nw,writeoff,"+goodB+",1,,,\r\nh,hold,"+goodA+",2,,60,\r\nh2,hold,"+goodA+",3,,70,\r\ne,extend,,,h,10,\r\n"+
		"q,read,"+goodA+",,,,\r\nq,read,"+goodB+",0,,,\r\nc,commit,,,h,,\r\nl,release,,,h2,,\r\nt,tick,,,,,100\r\ns,save,,,,,\r\n"+
		"x,buy,,,,,\r\ny,Hold,"+goodA+",1,,5,\r\nz,run,,,,,\r\ni,hold,"+goodA+",1,,5,\r\ni,hold,"+goodB+",5,,5,\r\nc2,commit,,,h,,\r\nt2,tick,,,,,7",
		"r,restock,OK,,", "w,writeoff,OK,,", "h,hold,OK,,60", "h2,hold,OK,,70", "e,extend,OK,,10", "q,read,OK,,", "c,commit,OK,,", "l,release,OK,,", "t,tick,OK,,100", "s,save,OK,,",
		"x,buy,E120,,", "y,Hold,E120,,", "z,run,E120,,", "i,hold,E141,1,", "c2,commit,E142,,", "t2,tick,OK,,100")
	wantDo(t, d, "goods\nholds\ncheck\n", "0 goods 2\n"+goodA+" 7 0 7\n"+goodB+" 4 0 4\n1 holds 0\n2 check OK 16 1\n")
	want(t, "the clock", d.State().Now, 100)
	want(t, "the checkpoint's", d.Story().Ops[9].Request.Kind, api.KindSave)
}

// TestP18_5_Runs: rows one behind the other with the same id and what are one request; Hold, Ttl and Now are its first row's; rows without a code have no line.
func TestP18_5_Runs(t *testing.T) {
	d := opened(t, single())
	wantFilled(t, d, heads+
		"a,restock,"+goodA+",1,,,\r\na,restock,,7,x,5,5\r\na,restock,"+goodA+",2,x,6,6\r\na,restock,"+goodB+",,,,\r\n"+
		"a,hold,"+goodA+",1,,5,\r\na,hold,"+goodB+",2,y,9,9\r\nb,hold,"+goodA+",1,,,\r\nb,hold,"+goodA+",1,,5,\r\na,hold,"+goodA+",1,,5,\r\nb,commit,,,q,,\r\nb,commit,"+goodA+",3,,,\r\nb,commit,,,q,,\r\nc,tick,,,,,\r\nc,tick,,,,,9\r\nd,read,,5,,,\r\nd,read,"+goodA+",,,,\r\n",
		"a,restock,E124,2,", "a,hold,E141,,", "b,hold,E127,,", "a,hold,E141,,", "b,commit,E121,,", "c,tick,OK,,", "d,read,OK,,")
	var got []api.Request
	for _, o := range d.Story().Ops {
		got = append(got, o.Request)
	}
	wanted := []api.Request{
		{Id: "a", Kind: api.KindRestock, Lines: []api.Line{{Code: goodA, Qty: 1}, {Code: goodA, Qty: 2}, {Code: goodB}}},
		{Id: "a", Kind: api.KindHold, Lines: []api.Line{{Code: goodA, Qty: 1}, {Code: goodB, Qty: 2}}, Ttl: 5},
		{Id: "b", Kind: api.KindHold, Lines: []api.Line{{Code: goodA, Qty: 1}, {Code: goodA, Qty: 1}}},
		{Id: "a", Kind: api.KindHold, Lines: []api.Line{{Code: goodA, Qty: 1}}, Ttl: 5},
		{Id: "b", Kind: api.KindCommit, Lines: []api.Line{{Code: goodA, Qty: 3}}, Hold: "q"},
		{Id: "c", Kind: api.KindTick},
		{Id: "d", Kind: api.KindRead, Lines: []api.Line{{Code: goodA}}},
	}
	if !equal(got, wanted) {
		t.Errorf("%s\nwant %s", show(got), show(wanted))
	}
}

// TestP18_5_Columns: columns in any order, others among them; cells of any bytes in id and what.
func TestP18_5_Columns(t *testing.T) {
	d := opened(t, single())
	wantFilled(t, d, "now,note,what,qty,code,x,id,ttl,hold\r\n,,restock,5,"+goodA+",,r,,\r\n,\"a,b\",hold,2,"+goodA+",,h,60,\r\n7,,tick,,,,t,,\r\n", "r,restock,OK,,", "h,hold,OK,,60", "t,tick,OK,,7")
	wantFilled(t, d, heads+"\"a,b\",save,,,,,\r\n\"a\"\"\",\"sa\nve\",,,,,\r\n\xff,save,,,,,\r\n a,save,,,,,\r\n", "\"a,b\",save,OK,,", "\"a\"\"\",\"sa\nve\",E120,,", "\xff,save,E111,,", " a,save,E111,,")
	wantFilled(t, d, heads+"m,restock,"+goodA+",-9223372036854775808,,,\r\nn,hold,"+goodA+",1,,9223372036854775807,\r\no,tick,,,,,-1\r\np,restock,"+goodB+",9223372036854775807,,,\r\n", "m,restock,E124,,", "n,hold,E127,,", "o,tick,E128,,", "p,restock,OK,,")
}

// TestP18_5_NoRows: a sheet without rows, and one of its head alone.
func TestP18_5_NoRows(t *testing.T) {
	d := opened(t, plain())
	answer, err := d.Fill("")
	var f *sheet.Fault
	if answer != "" || !errors.Is(err, sheet.ErrMissing) || !errors.As(err, &f) || f.Line != 1 || f.Column != 0 {
		t.Errorf("%q, %v", answer, err)
	}
	do(t, d, "@1 restock r "+goodA+" 5\n")
	answer, err = d.Fill(heads)
	if answer != "id,what,answer,line,now\r\n" || err != nil {
		t.Errorf("%q, %v", answer, err)
	}
	// The store was run.
	want(t, "goods", d.State().Levels[0].OnHand, 5)
	wantDo(t, d, "run\n", "1 run 0\n")
}

// TestP18_5_Faults: what sheet refuses changes nothing.
func TestP18_5_Faults(t *testing.T) {
	d := opened(t, plain())
	do(t, d, "@1 restock r "+goodA+" 5\n@2 read q "+goodA+"\npick 1 3\n")
	was := looksOf(d)
	for _, x := range []struct {
		text         string
		err          error
		line, column int
	}{
		{"id\r\n", sheet.ErrMissing, 1, 1}, {"what,code,qty,hold,ttl,now\r\n", sheet.ErrMissing, 1, 0}, {"id,what,code,qty,hold,ttl\r\na,save,,,,\r\n", sheet.ErrMissing, 1, 6}, {"id,what,code,qty,hold,ttl,now,id\r\n", sheet.ErrTwice, 1, 7},
		{heads + ",save,,,,,\r\n", sheet.ErrEmpty, 2, 0}, {heads + "s,,,,,,\r\n", sheet.ErrEmpty, 2, 1}, {heads + "s,save,,x,,,\r\n", sheet.ErrNumber, 2, 3}, {heads + "s,save,,,,,\r\nt,save,,,,07,\r\n", sheet.ErrNumber, 3, 5}, {heads + "s,save,,,,,-0\r\n", sheet.ErrNumber, 2, 6},
		{heads + "s,save\r\n", sheet.ErrRagged, 2, 6}, {heads + "s,save,,,,,\n", sheet.ErrLine, 2, 11}, {heads + "\x00,save,,,,,\r\n", sheet.ErrByte, 2, 0}, {heads + "\"s", sheet.ErrOpen, 2, 0}, {heads + strings.Repeat("s", 4097), sheet.ErrCell, 2, 4096},
		{heads + strings.Repeat("s,save,,,,,\r\n", 4096), sheet.ErrRows, 4097, 0}, {heads + "s,tick,,,,,1970-01-01T00Z\r\n", sheet.ErrNumber, 2, 6},
	} {
		answer, err := d.Fill(x.text)
		var f *sheet.Fault
		if answer != "" || !errors.Is(err, x.err) || !errors.As(err, &f) || f.Line != x.line || f.Column != x.column {
			t.Errorf("Fill(%.100q): %q, %v, want %v, %d, %d", x.text, answer, err, x.err, x.line, x.column)
		}
	}
	wantSame(t, "sheets with faults", d, was)
	wantLines(t, d, "run\n", "1 @2 q OK "+goodA+" 0 0", "0 @1 r OK", "3 run *")
}

// TestP18_5_Refused: an answer that sheet.Print refuses, since it is longer than what came in, is its error, though all was done.
func TestP18_5_Refused(t *testing.T) {
	for size, isTold := range map[int]bool{4081: true, 4082: false, 4083: false} {
		text := heads + "a,restock," + goodA + ",5,,,\r\n"
		for i := range 64 {
			text += fmt.Sprintf("%04d%s,save,,,,,\r\n", i, strings.Repeat("i", size-4))
		}
		d := opened(t, single())
		answer, err := d.Fill(text)
		var f *sheet.Fault
		switch {
		case isTold && (err != nil || len(answer) < api.MaxSheet-64 || strings.Count(answer, ",E111,,\r\n") != 64):
			t.Errorf("%d: %.100q, %v", size, answer, err)
		case !isTold && (answer != "" || !errors.Is(err, sheet.ErrLong) || !errors.As(err, &f) || f.Line != 0 || f.Column != 0):
			t.Errorf("%d: %.100q, %v", size, answer, err)
		}
		want(t, "goods", d.State().Levels[0].OnHand, 5)
		wantDo(t, d, "run\ncheck\n", "0 run 0\n1 check OK 65 1\n")
	}
}

// TestP18_5_Ahead: what waits is run ahead of a sheet's requests, and its replies are told to nobody.
func TestP18_5_Ahead(t *testing.T) {
	d := opened(t, plain())
	do(t, d, "@1 restock r "+goodA+" 5\n@2 read q "+goodA+"\npick 2 2\n")
	wantFilled(t, d, heads+"h,hold,"+goodA+",5,,60,\r\n", "h,hold,OK,,60")
	wantDo(t, d, "run\ncrash\nholds\n", "3 run 0\n4 crash OK\n5 holds 1\nh 60 "+goodA+" 5\n")
}

// TestP18_5_Busy: ErrBusy is told as any other error; a log that is full.
func TestP18_5_Busy(t *testing.T) {
	c := brief()
	c.Handlers = 1
	d := opened(t, c)
	wantFilled(t, d, heads+"a,restock,"+goodA+",5,,,\r\nb,restock,"+goodA+",5,,,\r\ns,save,,,,,\r\nb,restock,"+goodA+",5,,,\r\n", "a,restock,OK,,", "b,restock,E9,,", "s,save,OK,,", "b,restock,OK,,")
	wantDo(t, d, "check\n", "0 check OK 3 1\n")
}

// TestP18_5_Unended: a sheet that the run does not come to the end of: what has not ended is told as ErrBusy, and is heard of no more.
func TestP18_5_Unended(t *testing.T) {
	var text strings.Builder
	text.WriteString(heads)
	for i := range 4000 {
		fmt.Fprintf(&text, "s%d,tick,,,,,1\r\n", i)
	}
	for _, handlers := range []int{1, 16} {
		tally := map[string]int{}
		p := pairOf(t, api.Config{Codes: []string{goodA}, Stripes: 64, Handlers: handlers, Sectors: 2400, Slot: 700}, tally)
		answer := p.fill(text.String())
		if !strings.Contains(answer, ",OK,,1\r\n") || !strings.HasSuffix(answer, "s3999,tick,E9,,\r\n") || strings.Count(answer, "\r\n") != 4001 {
			t.Errorf("%.300q", answer)
		}
		if tally["a document's request that still waited"] == 0 || tally["a document's request still at work"] == 0 {
			t.Errorf("%v", tally)
		}
		p.do("@1 read q " + goodA + "\nrun\ncheck\n")
		p.fill(text.String())
		if out := p.do("crash\nrun\ncheck\n"); strings.Contains(out, "lost") || !strings.Contains(out, "run 0\n") {
			t.Errorf("%s", out)
		}
		// One that an earlier sheet left at work is told to nobody, though a sheet is being filled.
		p.fill(text.String())
		p.fill(heads + "a,save,,,,,\r\nb,tick,,,,,9\r\n")
		p.do("goods\nholds\ncheck\n")
	}
}

// TestP18_5_TwoRuns: ahead of a sheet and behind it MaxRun picks are made at most, each time from desk 1 on.
func TestP18_5_TwoRuns(t *testing.T) {
	for _, handlers := range []int{3, 5, 7} {
		p := pairOf(t, api.Config{Codes: []string{goodA}, Stripes: 64, Handlers: handlers, Sectors: 2400, Slot: 700}, nil)
		for n := range handlers {
			p.do(strings.Repeat(fmt.Sprintf("@%d tick t 1\n", n+1), api.MaxWaiting))
		}
		p.fill(heads)
		p.fill(heads + "a,read," + goodA + ",,,,\r\n")
		p.do("run\ncheck\n")
	}
}

// TestP18_5_LongAtWork: what a sheet has left at work may end while the requests of another one run: it is none of these.
func TestP18_5_LongAtWork(t *testing.T) {
	var codes []string
	for i := range 32 {
		codes = append(codes, fmt.Sprintf("%040d", i))
	}
	tally := map[string]int{}
	p := pairOf(t, api.Config{Codes: codes, Stripes: 64, Handlers: 16, Sectors: 4096, Slot: 1024}, tally)
	for i := range 70 {
		script := fmt.Sprintf("@1 restock r%d", i)
		for _, code := range codes {
			script += " " + code + " 1"
		}
		p.do(script + "\nrun\n")
	}
	// A checkpoint of so much takes so many picks that a run comes to the end of six or so.
	saves := heads
	for i := range 16 {
		saves += fmt.Sprintf("s%d,save,,,,,\r\n", i)
	}
	first, second := p.fill(saves), p.fill(saves)
	if n, m := strings.Count(first, ",OK,"), strings.Count(second, ",OK,"); n < 2 || n > 7 || m < 1 || m >= n || tally["a document's reply told to nobody"] < 7 {
		t.Errorf("%s%s%v", first, second, tally)
	}
	p.do("run\ncheck\n")
}

// TestP18_5_MaxRows: a sheet of as many requests as it can have.
func TestP18_5_MaxRows(t *testing.T) {
	p := pairOf(t, roomy(3, goodA, goodB), nil)
	answer := p.fill(heads + strings.Repeat("a,tick,,,,,-1\r\nb,read,"+goodA+",,,,\r\nc,commit,,,x,,\r\n", 1365))
	if strings.Count(answer, "\r\n") != 4096 || strings.Count(answer, "a,tick,E128,,") != 1365 || strings.Count(answer, "b,read,OK,,") != 1365 || strings.Count(answer, "c,commit,E142,,") != 1365 {
		t.Errorf("%.300q", answer)
	}
	p.fill(heads + strings.Repeat("a,tick,,,,,-1\r\nb,read,"+goodA+",,,,\r\n", 5))
	if text := p.do("check\n"); text != "0 check OK 4096 1\n" {
		t.Errorf("%s", text)
	}
}
