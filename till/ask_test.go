package till_test

import (
	"strconv"
	"testing"

	"larder/api"
)

// TestP15_2_Handlers: Ask at handlers that there are and that there are not; a refusal changes nothing.
func TestP15_2_Handlers(t *testing.T) {
	for _, c := range []api.Config{plain(), wide()} {
		last := c.Handlers - 1
		u := fresh(t, c)
		was := looksOf(u, c)
		for _, h := range []int{-1, last + 1, least, greatest} {
			want(t, "Ask of no handler", u.Ask(h, restock("1", line("a", 5))), api.ErrHandler)
			wantSame(t, "Ask of no handler", u, c, was)
		}
		want(t, "Ask of the first", u.Ask(0, restock("1", line("a", 5))), api.OK)
		wantMoment(t, u, "an Ask", 1)
		want(t, "Ask of the last", u.Ask(last, refused("2")), api.OK)
		wantMoment(t, u, "another", 2)
		was = looksOf(u, c)
		for _, h := range []int{0, last} {
			want(t, "Ask of one at work", u.Ask(h, restock("3", line("a", 5))), api.ErrBusy)
			wantSame(t, "Ask of one at work", u, c, was)
		}
		for _, h := range []int{0, last} {
			phase, i := u.Phase(h)
			want(t, "phase", phase, api.PhaseBegin)
			want(t, "its number", i, 0)
		}
		u.Run(greatest)
		want(t, "Ask of one that has ended", u.Ask(last, restock("3", line("a", 5))), api.OK)
	}
}

// TestP15_2_Begin: a request is asked at the moment behind Ask; any request is, as it stands.
func TestP15_2_Begin(t *testing.T) {
	c := plain()
	u := fresh(t, c)
	list := []api.Request{
		restock("1", line("b", 2), line("a", 5), line("b", 1)), refused("2"), {}, {Id: "x", Kind: least, Hold: "h", Ttl: greatest, Now: least},
		read("r", "b", "a", "b"), commit("c", "nobody"), save("s"), {Id: "\x00 ", Kind: api.KindTick, Lines: []api.Line{line("", -1)}},
	}
	var begins []int
	for i, r := range list {
		begins = append(begins, u.Story().Moment+1)
		want(t, "Ask", u.Ask(i%2, r), api.OK)
		s := u.Story()
		want(t, "ops", len(s.Ops), i+1)
		if o := s.Ops[i]; !sameOp(o, api.Op{Request: r, Begin: begins[i], End: api.MaxMoment, Open: true}) {
			t.Errorf("op %d: %s", i, show(o))
		}
		if i%2 == 1 {
			u.Run(greatest)
		}
	}
	for i, o := range u.Story().Ops {
		if !sameRequest(o.Request, list[i]) || o.Begin != begins[i] || o.Open || o.End <= o.Begin {
			t.Errorf("op %d: %s", i, show(o))
		}
	}
	wantHolds(t, u, c)
}

// many asks so many requests, and lets them end.
func many(t *testing.T, p *pair, n int) {
	t.Helper()
	for i := range n {
		if e := p.u.Ask(i%2, refused("m")); e != api.OK {
			t.Fatalf("request %d: %d", i, e)
		}
		p.w.ask(i%2, refused("m"))
		p.u.Run(4)
		p.w.run(4)
	}
	p.compare("many requests")
}

// TestP15_2_History: MaxHistory requests may be asked, over all lives, those that were told ErrBusy counted.
func TestP15_2_History(t *testing.T) {
	c := brief()
	p := pairOf(t, formatted(t, c), c, nil)
	for i := range 40 {
		p.ask(0, restock("x"+strconv.Itoa(i%20), line("a", 1)))
		p.run(greatest)
		if i%13 == 12 {
			p.crash(kept(0, 1, 2))
		}
	}
	busy := p.u.Story().Busy
	if busy < 20 {
		t.Fatalf("%d were told ErrBusy alone", busy)
	}
	many(t, p, api.MaxHistory-1-40)
	want(t, "ops", len(p.u.Story().Ops), api.MaxHistory-1-busy)
	// A refused Ask is none that was asked.
	want(t, "Ask of no handler", p.ask(2, refused("n")), api.ErrHandler)
	want(t, "the last request", p.ask(1, restock("z", line("b", 1))), api.OK)
	was := looksOf(p.u, c)
	for _, h := range []int{-1, 0, 1, 2} {
		want(t, "one more", p.u.Ask(h, refused("n")), api.ErrFull)
		wantSame(t, "one more", p.u, c, was)
	}
	// Picks and power failures go on.
	if p.run(greatest) == 0 || p.crash(nothing()) != api.OK {
		t.Error("nothing goes on")
	}
	want(t, "one more in another life", p.ask(0, refused("n")), api.ErrFull)
	want(t, "busy", p.u.Story().Busy, busy+1)
	want(t, "ops and busy ones", len(p.u.Story().Ops)+p.u.Story().Busy, api.MaxHistory)
}

// TestP15_2_HistoryOfOps: the same where none was told ErrBusy; the last one is cut off.
func TestP15_2_HistoryOfOps(t *testing.T) {
	c := plain()
	p := pairOf(t, formatted(t, c), c, nil)
	many(t, p, api.MaxHistory-1)
	want(t, "the last request", p.ask(0, restock("z", line("b", 1))), api.OK)
	want(t, "one more", p.ask(1, refused("n")), api.ErrFull)
	p.crash(nothing())
	want(t, "one more behind a crash", p.ask(1, refused("n")), api.ErrFull)
	want(t, "ops", len(p.u.Story().Ops), api.MaxHistory)
	want(t, "ops in the order", len(p.u.Story().Order), api.MaxHistory-1)
}
