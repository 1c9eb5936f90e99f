package desk_test

import (
	"fmt"
	"math/rand"
	"slices"
	"strings"
	"testing"

	"larder/api"
	"larder/desk"
	"larder/edi"
	"larder/lin"
	"larder/stock"
)

// thing is something that a shop is given.
type thing struct{ kind, text string }

func (x thing) give(d *desk.Desk) (string, error) {
	switch x.kind {
	case "script":
		return d.Do(x.text)
	case "interchange":
		return d.Take(x.text)
	case "sheet":
		return d.Fill(x.text)
	default:
		return d.Advice(x.text)
	}
}

// things draws what a shop is given in a while.
func (d *writer) things(n int) []thing {
	var l []thing
	for range n {
		switch k := d.r.Intn(10); {
		case k < 6:
			l = append(l, thing{"script", d.script(12)})
		case k < 7:
			l = append(l, thing{"script", d.spoilt()})
		case k < 8:
			l = append(l, thing{"interchange", d.interchange()})
		case k < 9:
			l = append(l, thing{"sheet", d.sheet(8)})
		default:
			l = append(l, thing{"number", pick(d.r, "S-1", "s")})
		}
	}
	return l
}

func writerOf(c api.Config, seed int) *writer {
	return &writer{r: rand.New(rand.NewSource(int64(seed))), codes: c.Codes, handlers: c.Handlers}
}

// TestP18_8_OneLedger: behind whatever comes, and whenever the power fails, check tells OK; and so it is: one ledger gives the story's replies, and its state when all is at rest.
func TestP18_8_OneLedger(t *testing.T) {
	lives, ops := 0, 0
	for n, c := range shops() {
		for i := range 8 {
			d := opened(t, c)
			start := d.State()
			for _, x := range writerOf(c, 1880+100*n+i).things(30) {
				x.give(d)
				s := d.Story()
				text := do(t, d, "check\n")
				if !strings.HasSuffix(text, fmt.Sprintf(" check OK %d %d\n", len(s.Ops), s.Lives)) {
					t.Fatalf("behind %v: %s", x, text)
				}
				if good, e := lin.Holds(s.Ops, s.Order, start); !good || e != api.OK {
					t.Fatalf("behind %v: %v, %d", x, good, e)
				}
			}
			do(t, d, "run\n")
			s := d.Story()
			last, e := lin.Final(s.Ops, s.Order, start)
			if e != api.OK || !equal(last, d.State()) || !stock.Sound(last) {
				t.Errorf("shop %d, run %d: %d, %s, want %s", n, i, e, show(d.State()), show(last))
			}
			lives, ops = lives+s.Lives, ops+len(s.Ops)
		}
	}
	if lives < 200 || ops < 2000 {
		t.Errorf("%d lives, %d ops", lives, ops)
	}
}

// TestP18_9_Cut: a script cut between lines anywhere is answered as the whole one is, and leaves the same.
func TestP18_9_Cut(t *testing.T) {
	for n, c := range shops() {
		for i := range 6 {
			w := writerOf(c, 1890+100*n+i)
			ahead, script := w.script(10), w.script(25)
			whole := opened(t, c)
			wanted := do(t, whole, ahead) + do(t, whole, script)
			for at, b := range []byte(script) {
				if b != '\n' {
					continue
				}
				d := opened(t, c)
				if got := do(t, d, ahead) + do(t, d, script[:at+1]) + do(t, d, script[at+1:]); got != wanted {
					t.Fatalf("cut at %d: %s\nwant %s", at, got, wanted)
				}
				wantSame(t, "a script that was cut", d, looksOf(whole))
			}
			d := opened(t, c)
			got := do(t, d, ahead)
			for _, line := range strings.SplitAfter(script, "\n") {
				got += do(t, d, line)
			}
			want(t, "line by line", got, wanted)
			text, err := desk.Run(c, append([]string{ahead}, strings.SplitAfter(script, "\n")...)...)
			if text != wanted || err != nil {
				t.Errorf("Run: %s, %v, want %s", text, err, wanted)
			}
		}
	}
}

// TestP18_10_SameAgain: two shops that are made alike and given the same answer the same, whatever is looked at meanwhile, and whatever other shops do beside them.
func TestP18_10_SameAgain(t *testing.T) {
	for n, c := range shops() {
		first, second, other := opened(t, c), opened(t, c), opened(t, shops()[(n+1)%len(shops())])
		for i, x := range writerOf(c, 1900+n).things(60) {
			a, err := x.give(first)
			first.State()
			first.Story()
			thing{"script", "@1 save s\npick 1 5\ncrash\nrun\n"}.give(other)
			b, e := x.give(second)
			if a != b || fmt.Sprint(err) != fmt.Sprint(e) || !equal(looksOf(first), looksOf(second)) {
				t.Fatalf("shop %d, thing %d: %q, %v, and %q, %v", n, i, a, err, b, e)
			}
		}
	}
}

// TestW12_SideBySide: shops that are given things by goroutines side by side answer as each alone.
func TestW12_SideBySide(t *testing.T) {
	type book struct {
		answers []string
		end     looks
	}
	work := func(n int) book {
		c := shops()[n%len(shops())]
		var b book
		d, _ := desk.Open(c)
		for _, x := range writerOf(c, 1200+n).things(30) {
			text, err := x.give(d)
			b.answers = append(b.answers, fmt.Sprint(text, err))
		}
		b.end = looksOf(d)
		return b
	}
	count := 2 * len(shops())
	alone := make([]book, count)
	for n := range count {
		alone[n] = work(n)
	}
	beside := make(chan struct{})
	books := make([]book, count)
	for n := range count {
		go func() {
			books[n] = work(n)
			beside <- struct{}{}
		}()
	}
	for range count {
		<-beside
	}
	for n := range count {
		if !slices.Equal(books[n].answers, alone[n].answers) || !equal(books[n].end, alone[n].end) {
			t.Errorf("shop %d answers otherwise beside others", n)
		}
	}
}

// TestP18_11_SheetIsScript: a sheet of requests answers what a script with the same requests at the same desks and a run tells, and leaves the same; behind power failures too.
func TestP18_11_SheetIsScript(t *testing.T) {
	errs := map[string]int{}
	for n, c := range shops() {
		for i := range 12 {
			w := writerOf(c, 1911+100*n+i)
			ahead := w.script(20) + "\nrun\n"
			a, b := opened(t, c), opened(t, c)
			do(t, a, ahead)
			do(t, b, ahead)
			var rows, script, ids, whats []string
			last := ""
			for len(ids) < 30 {
				line := w.request()
				words := strings.Fields(line)
				if words[1]+" "+words[0] == last { // these rows would be one request
					continue
				}
				last = words[1] + " " + words[0]
				for _, row := range rowsOf(line, "") {
					rows = append(rows, strings.Join(row[:7], ","))
				}
				script = append(script, fmt.Sprintf("@%d %s", len(ids)%c.Handlers+1, line))
				ids, whats = append(ids, words[1]), append(whats, words[0])
			}
			text := do(t, b, strings.Join(script, "\n")+"\nrun\n")
			got := filled(t, a, heads+strings.Join(rows, "\r\n")+"\r\n")
			wanted := replies(t, text, ids, whats)
			if !slices.Equal(got, wanted) {
				t.Fatalf("shop %d, run %d: %v\nwant %v", n, i, got, wanted)
			}
			wantSame(t, "a sheet and a script", a, looksOf(b))
			for _, row := range got {
				errs[strings.Split(row, ",")[2]]++
			}
		}
	}
	for _, e := range []string{"OK", "E141", "E142", "E129", "E9", "E5"} {
		if errs[e] < 5 {
			t.Errorf("%s: %d times alone", e, errs[e])
		}
	}
}

// replies answers the rows of a sheet for a script's replies, told in any order: the n-th command from the first is the n-th request.
func replies(t *testing.T, text string, ids, whats []string) []string {
	t.Helper()
	rows := make([]string, len(ids))
	lines := strings.Split(strings.TrimSuffix(text, "\n"), "\n")
	var end int
	fmt.Sscan(lines[len(lines)-1], &end) // the run's number
	for _, line := range lines[:len(lines)-1] {
		words := strings.Fields(line)
		var n int
		fmt.Sscan(words[0], &n)
		i := n - end + len(ids)
		answer := map[string]string{}
		for k := 4; k+1 < len(words) && (words[k] == "line" || words[k] == "now"); k += 2 {
			answer[words[k]] = words[k+1]
		}
		rows[i] = strings.Join([]string{ids[i], whats[i], words[3], answer["line"], answer["now"]}, ",")
	}
	return rows
}

// TestP18_12_OrdersAreHeld: behind a Take each order that the ledger could hold is a live hold with its lines summed; again it is the same; and the advice tells what a read tells. With one desk a ledger of the test's own says what can be held; with several the store's replies do.
func TestP18_12_OrdersAreHeld(t *testing.T) {
	held, not := 0, 0
	for _, handlers := range []int{1, 2, 5, 16} {
		for i := range 12 {
			c := roomy(handlers, trade(1), trade(2), trade(3), "zz")
			w := writerOf(c, 1912+100*handlers+i)
			d := opened(t, c)
			do(t, d, fmt.Sprintf("@1 restock r %s %d %s %d %s %d\nrun\n", trade(1), 4+w.r.Intn(30), trade(2), 4+w.r.Intn(30), trade(3), 4+w.r.Intn(30)))
			for round := range 6 {
				text := w.interchange()
				if w.r.Intn(3) == 0 {
					do(t, d, w.crash()+"\n")
				}
				before := ledgerOf(t, d.State())
				if _, err := d.Take(text); err != nil {
					continue
				}
				came, _ := edi.Parse(text)
				state := d.State()
				for _, o := range ordersIn(came) {
					r := api.Request{Id: came.From + "-" + o.Number, Kind: api.KindHold, Ttl: 604800}
					for _, x := range o.Lines {
						r.Lines = append(r.Lines, api.Line{Code: x.Code, Qty: x.Qty})
					}
					reply, isHeld := replyOf(d.Story(), r), holdOf(state, r)
					if handlers == 1 {
						if wanted := before.Do(r); !equal(reply, wanted) {
							t.Fatalf("round %d: %s of %s, one ledger: %s", round, show(reply), show(r), show(wanted))
						}
					}
					if (reply.Err == api.OK) != isHeld {
						t.Fatalf("%s: %s, and held: %v", show(r), show(reply), isHeld)
					}
					if isHeld {
						held++
					} else {
						not++
					}
				}
				if handlers == 1 && !equal(before.State(), state) {
					t.Fatalf("%s, one ledger: %s", show(state), show(before.State()))
				}
				// Again: no second hold, and the advice is as a read is.
				again, err := d.Take(text)
				if err != nil {
					t.Fatal(err)
				}
				wantReadAsAdvised(t, d, again)
				if handlers == 1 && !equal(d.State().Holds, state.Holds) {
					t.Fatalf("asked again: %s, were %s", show(d.State().Holds), show(state.Holds))
				}
				for _, h := range state.Holds {
					if !slices.ContainsFunc(d.State().Holds, func(k api.Held) bool { return equal(h, k) }) {
						t.Fatalf("the hold %s is gone: %s", show(h), show(d.State().Holds))
					}
				}
			}
		}
	}
	if held < 150 || not < 100 {
		t.Errorf("%d held, %d not", held, not)
	}
}

func ordersIn(i api.Interchange) []api.Order {
	var l []api.Order
	for _, g := range i.Groups {
		for _, s := range g.Sets {
			if o, err := edi.ReadOrder(s); err == nil {
				l = append(l, o)
			}
		}
	}
	return l
}

// replyOf answers the last reply that a request had.
func replyOf(s api.Story, r api.Request) api.Reply {
	for _, o := range slices.Backward(s.Ops) {
		if !o.Open && equal(o.Request, r) {
			return o.Reply
		}
	}
	return api.Reply{Err: -1}
}

// holdOf says whether a live hold has a request's lines, summed by code.
func holdOf(s api.State, r api.Request) bool {
	n, e, _ := stock.Normal(r)
	return e == api.OK && slices.ContainsFunc(s.Holds, func(h api.Held) bool { return h.Id == r.Id && slices.Equal(h.Lines, n.Lines) })
}

// wantReadAsAdvised asks that a read tells what an answer's advices tell.
func wantReadAsAdvised(t *testing.T, d *desk.Desk, answer string) {
	t.Helper()
	_, advices := papers(t, answer)
	for _, a := range advices {
		for _, l := range a.Lines {
			text := do(t, d, "@1 read q "+l.Code+"\nrun\n")
			if !strings.Contains(text, fmt.Sprintf(" @1 q OK %s %d %d\n", l.Code, l.OnHand, l.OnHand-l.Free)) {
				t.Fatalf("advised %s, read %s", show(l), text)
			}
		}
	}
}

// TestP18_12_Ticks: a hold of an order lives until its time is over, and not behind it.
func TestP18_12_Ticks(t *testing.T) {
	d := stocked(t, plain())
	text := one(t, "N", ordered(goodA, 4), ordered(goodA, 2))
	taken(t, d, text)
	do(t, d, "@1 tick t 604799\nrun\n")
	wantDo(t, d, "holds\n", "4 holds 1\nSHOP-N 604800 "+goodA+" 6\n")
	do(t, d, "@1 tick u 604800\nrun\n")
	wantDo(t, d, "holds\n", "7 holds 0\n")
	// The ledger has forgotten it, so that it is held anew.
	taken(t, d, text)
	wantDo(t, d, "holds\n", "8 holds 1\nSHOP-N 1209600 "+goodA+" 6\n")
}
