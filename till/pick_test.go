package till_test

import (
	"bytes"
	"slices"
	"testing"

	"larder/api"
	"larder/lock"
)

// TestP15_3_Pick: a pick is a step of that handler alone; one that can't be had changes nothing.
func TestP15_3_Pick(t *testing.T) {
	c := plain()
	u := fresh(t, c)
	was := looksOf(u, c)
	for _, h := range []int{-1, 0, 1, 2, least, greatest} {
		want(t, "Pick of one that is idle or is not there", u.Pick(h), false)
		wantSame(t, "Pick of one that is idle or is not there", u, c, was)
	}
	ask(t, u, 0, refused("1"))
	ask(t, u, 1, refused("2"))
	want(t, "Pick of the last", u.Pick(1), true)
	wantMoment(t, u, "a Pick", 3)
	for h, phase := range []int{api.PhaseBegin, api.PhaseReply} {
		at, _ := u.Phase(h)
		want(t, "phase", at, phase)
	}
	want(t, "its second step", u.Pick(1), true)
	wantMoment(t, u, "a Pick", 4)
	was = looksOf(u, c)
	want(t, "Pick of one that has ended", u.Pick(1), false)
	want(t, "Pick of one behind the last", u.Pick(2), false)
	wantSame(t, "Picks that answer false", u, c, was)
	want(t, "Pick of the first", u.Pick(0), true)
}

// TestP15_3_Answered: a request is answered at the moment behind its step from PhaseReply, and no sooner.
func TestP15_3_Answered(t *testing.T) {
	c := plain()
	u := fresh(t, c)
	moment := 0
	for i, r := range []api.Request{restock("1", line("a", 5)), refused("2"), read("3", "a"), save("4"), tick("5", 3), hold("6", 9, line("a", 9))} {
		ask(t, u, i%2, r)
		moment++
		for phase := api.PhaseBegin; phase != api.PhaseIdle; phase, _ = u.Phase(i % 2) {
			o := u.Story().Ops[i]
			if !sameOp(o, api.Op{Request: r, Begin: o.Begin, End: api.MaxMoment, Open: true}) {
				t.Fatalf("op %d in phase %d: %s", i, phase, show(o))
			}
			want(t, "Pick", u.Pick(i%2), true)
			moment++
			wantMoment(t, u, "a Pick", moment)
		}
		x, told := u.Reply(i % 2)
		if o := u.Story().Ops[i]; !told || o.Open || o.End != moment || !sameReply(o.Reply, x) || x.Id != r.Id {
			t.Errorf("op %d, answered at %d: %s, reply %s", i, moment, show(o), show(x))
		}
	}
	wantHolds(t, u, c)
}

// blocked answers a till in which handler 1 is blocked on a stripe that handler 0 has.
func blocked(t *testing.T, p *pair) {
	t.Helper()
	p.ask(0, restock("1", line("a", 5)))
	p.ask(1, restock("1", line("a", 5)))
	for phase := 0; phase != api.PhaseCheck; phase, _ = p.u.Phase(0) {
		p.pick(0)
	}
	for p.pick(1) {
	}
	if phase, _ := p.u.Phase(1); phase != api.PhaseEnter {
		t.Fatalf("phase %d", phase)
	}
}

// TestP15_3_Run: how many picks, of whom, and when it ends.
func TestP15_3_Run(t *testing.T) {
	c := plain()
	u := fresh(t, c)
	was := looksOf(u, c)
	for _, most := range []int{least, -1, 0, 1, 2, 100, greatest} {
		want(t, "Run with nobody at work", u.Run(most), 0)
		wantSame(t, "Run with nobody at work", u, c, was)
	}
	ask(t, u, 0, refused("1"))
	ask(t, u, 1, refused("2"))
	was = looksOf(u, c)
	for _, most := range []int{least, -1, 0} {
		want(t, "Run of no picks", u.Run(most), 0)
		wantSame(t, "Run of no picks", u, c, was)
	}
	// Each Run begins with handler 0.
	want(t, "Run of one", u.Run(1), 1)
	phase, _ := u.Phase(0)
	want(t, "phase of the first", phase, api.PhaseReply)
	want(t, "Run of one", u.Run(1), 1)
	phase, _ = u.Phase(0)
	want(t, "phase of the first", phase, api.PhaseIdle)
	phase, _ = u.Phase(1)
	want(t, "phase of the second", phase, api.PhaseBegin)
	wantMoment(t, u, "two Runs of one", 4)
	// A pick that answers false is one too.
	was = looksOf(u, c)
	want(t, "Run of one, of one that is idle", u.Run(1), 1)
	wantSame(t, "Run of one, of one that is idle", u, c, was)
	want(t, "Run of two", u.Run(2), 2)
	phase, _ = u.Phase(1)
	want(t, "phase of the second", phase, api.PhaseReply)
	wantMoment(t, u, "a Run of two of which one did something", 5)
	want(t, "Run of more than it takes", u.Run(greatest), 2)
	want(t, "nobody is at work", isIdle(u, c), true)
	wantMoment(t, u, "it", 6)
}

// TestP15_3_RunAlone: with n steps of one handler of several it takes so many picks, and not one more.
func TestP15_3_RunAlone(t *testing.T) {
	c := wide()
	for h := range c.Handlers {
		for _, r := range []api.Request{restock("1", line("a", 5)), refused("2"), save("3")} {
			u := fresh(t, c)
			ask(t, u, h, r)
			v := fresh(t, c)
			ask(t, v, h, r)
			steps := 0
			for v.Pick(h) {
				steps++
			}
			want(t, "picks", u.Run(api.MaxPlay), (steps-1)*c.Handlers+h+1)
			wantMoment(t, u, "it", steps+1)
		}
	}
}

// TestP15_3_RunBlocked: handlers that are blocked are picked too.
func TestP15_3_RunBlocked(t *testing.T) {
	c := plain()
	p := pairOf(t, formatted(t, c), c, nil)
	blocked(t, p)
	moment := p.w.moment
	want(t, "Run of two", p.run(2), 2)
	wantMoment(t, p.u, "a Run of two of which one is blocked", moment+1)
	want(t, "Run of four", p.run(4), 4)
	wantMoment(t, p.u, "a Run of four of which two were blocked", moment+3)
	if n := p.run(greatest); n < 10 {
		t.Errorf("%d picks", n)
	}
	want(t, "nobody is at work", isIdle(p.u, c), true)
	want(t, "ready", len(p.u.Ready()), 0)
}

// TestP15_3_Ready: those at work that are not blocked on a stripe, on the water, on the flusher's role.
func TestP15_3_Ready(t *testing.T) {
	c := wide()
	u := fresh(t, c)
	ready := func(what string, l ...int) {
		t.Helper()
		if got := u.Ready(); !slices.Equal(got, l) {
			t.Errorf("ready, %s: %v, want %v", what, got, l)
		}
	}
	ready("nobody at work")
	ask(t, u, 3, restock(apart(c, "x"), line("a", 5)))
	ready("one", 3)
	ask(t, u, 1, restock(apart(c, "y"), line("a", 5)))
	ask(t, u, 0, restock(apart(c, "z"), line("b", 5)))
	ready("three", 0, 1, 3)
	to(t, u, 3, api.PhaseNote)
	for u.Pick(1) {
	}
	ready("one is blocked on a stripe", 0, 3)
	ask(t, u, 2, save("s"))
	ready("and one more", 0, 2, 3)
	to(t, u, 0, api.PhaseWait)
	for u.Pick(2) {
	}
	ready("and two are blocked on stripes", 0, 3)
	to(t, u, 3, api.PhaseCollect)
	for u.Pick(2) {
	}
	ready("the flusher, and the next one on the stripe", 1, 3)
	for u.Pick(1) {
	}
	for h := range 2 {
		phase, _ := u.Phase(h)
		want(t, "phase of one that waits for the water", phase, api.PhaseWait)
	}
	ready("two wait for the water, the Save goes on", 2, 3)
	to(t, u, 2, api.PhaseRole)
	ready("the Save waits for the flusher's role", 3)
	u.Run(greatest)
	ready("all have ended")
	wantHolds(t, u, c)
}

// TestP15_3_Looks: Phase and Reply at handlers that there are and that there are not; State and View in the midst of an effect.
func TestP15_3_Looks(t *testing.T) {
	c := plain()
	u := fresh(t, c)
	done(t, u, 1, restock("0", line("a", 1), line("b", 1)))
	for _, h := range []int{-1, 2, least, greatest} {
		phase, i := u.Phase(h)
		want(t, "phase of no handler", phase, -1)
		want(t, "its number", i, 0)
		if x, told := u.Reply(h); told || !sameReply(x, api.Reply{}) {
			t.Errorf("a reply of handler %d: %s", h, show(x))
		}
	}
	if x, told := u.Reply(0); told || !sameReply(x, api.Reply{}) {
		t.Errorf("a reply of one that has had none: %s", show(x))
	}
	if x, told := u.Reply(1); !told || !sameReply(x, api.Reply{Id: "0"}) {
		t.Errorf("a reply of the last: %s, %v", show(x), told)
	}
	ask(t, u, 1, restock("1", line("a", 5), line("b", 2)))
	if x, told := u.Reply(1); !told || !sameReply(x, api.Reply{Id: "0"}) {
		t.Errorf("a reply of one at work: %s, %v", show(x), told)
	}
	to(t, u, 1, api.PhaseApply)
	u.Pick(1)
	phase, i := u.Phase(1)
	want(t, "phase", phase, api.PhaseApply)
	want(t, "its number", i, 1)
	s := behind(t, empty(c), restock("0", line("a", 1), line("b", 1)))
	s.Levels[0].OnHand = 6
	wantState(t, u, s)
	if got := u.Story().State; !sameState(got, s) {
		t.Errorf("Story's state: %s", show(got))
	}
	v := u.View()
	if v.Life != 2 || v.Given != 2 || v.Noted != 1 || v.Durable != 1 || v.Flusher != -1 || v.Reserved <= v.Weight {
		t.Errorf("view: %+v", v)
	}
	to(t, u, 1, api.PhaseWrite)
	want(t, "flusher", u.View().Flusher, 1)
}

// TestP15_3_Image: the disk as it is seen, loose writes and all.
func TestP15_3_Image(t *testing.T) {
	c := plain()
	u := fresh(t, c)
	ask(t, u, 0, restock("1", line("a", 5)))
	to(t, u, 0, api.PhaseWrite)
	before := u.Image()
	want(t, "bytes", len(before), c.Sectors*api.SectorBytes)
	u.Pick(0)
	loose := u.Image()
	if bytes.Equal(before, loose) {
		t.Error("a loose write is not seen")
	}
	at := 2 * c.Slot * api.SectorBytes
	if !bytes.Equal(before[:at], loose[:at]) || bytes.Equal(before[at:at+api.SectorBytes], loose[at:at+api.SectorBytes]) || !bytes.Equal(before[at+api.SectorBytes:], loose[at+api.SectorBytes:]) {
		t.Error("another sector than the log's first was written")
	}
	u.Pick(0)
	if !bytes.Equal(u.Image(), loose) {
		t.Error("a Barrier changes what is seen")
	}
}

// TestP15_3_Unlike: the tests above lean on goods whose stripes are unlike.
func TestP15_3_Unlike(t *testing.T) {
	c := wide()
	want(t, "stripes", len(lock.Set(c.Codes, c.Stripes)), len(c.Codes))
}
