package till_test

import (
	"testing"

	"larder/api"
	"larder/till"
)

// slow has so many stripes that a Tick takes many steps.
func slow() api.Config {
	return api.Config{Codes: []string{"a", "b"}, Stripes: 64, Handlers: 2, Sectors: 40, Slot: 8}
}

// old answers a till with so many moments left; handler 0 is idle, handler 1 has a Tick at work.
func old(t *testing.T, left int) *till.Till {
	t.Helper()
	u := fresh(t, slow())
	moment, at := 0, api.PhaseIdle
	for moment < api.MaxPlay-left {
		if at == api.PhaseIdle {
			ask(t, u, 1, tick("t", 1))
		} else if !u.Pick(1) {
			t.Fatalf("no pick at moment %d", moment)
		}
		moment++
		at, _ = u.Phase(1)
	}
	if at == api.PhaseIdle || at == api.PhaseReply {
		t.Fatalf("the Tick has ended at moment %d", moment)
	}
	wantMoment(t, u, "much", api.MaxPlay-left)
	return u
}

// wantOver asks that nothing goes on any more, whatever is asked.
func wantOver(t *testing.T, name string, u *till.Till) {
	t.Helper()
	c := slow()
	wantMoment(t, u, name, api.MaxPlay)
	was := looksOf(u, c)
	for _, h := range []int{-1, 0, 1, 2} {
		want(t, name+": Ask", u.Ask(h, refused("x")), api.ErrFull)
		want(t, name+": Pick", u.Pick(h), false)
	}
	for _, most := range []int{-1, 1, 10, greatest} {
		want(t, name+": Run", u.Run(most), 0)
	}
	for _, x := range []api.Crash{nothing(), kept(0), torn(0, 129), torn(0, -1)} {
		want(t, name+": Crash", u.Crash(x), api.ErrFull)
	}
	wantSame(t, name, u, c, was)
	wantHolds(t, u, c)
}

// TestP15_2_MaxPlay: the last moment may be an Ask's.
func TestP15_2_MaxPlay(t *testing.T) {
	u := old(t, 1)
	want(t, "Ask of one at work", u.Ask(1, refused("x")), api.ErrBusy)
	want(t, "Ask of no handler", u.Ask(2, refused("x")), api.ErrHandler)
	wantMoment(t, u, "refused Asks", api.MaxPlay-1)
	want(t, "Ask", u.Ask(0, refused("x")), api.OK)
	s := u.Story()
	if o := s.Ops[len(s.Ops)-1]; o.Begin != api.MaxPlay || o.End != api.MaxMoment || !o.Open {
		t.Errorf("the last op: %s", show(o))
	}
	want(t, "ready", len(u.Ready()), 2)
	wantOver(t, "Ask", u)
}

// TestP15_3_MaxPlay: the last moment may be a pick's, by itself or in a Run, and may answer a request.
func TestP15_3_MaxPlay(t *testing.T) {
	u := old(t, 1)
	want(t, "Pick of one that is idle", u.Pick(0), false)
	wantMoment(t, u, "it", api.MaxPlay-1)
	want(t, "Pick", u.Pick(1), true)
	wantOver(t, "Pick", u)

	u = old(t, 1)
	want(t, "Run of one pick, of one that is idle", u.Run(1), 1)
	want(t, "Run", u.Run(greatest), 2)
	wantOver(t, "Run", u)

	u = old(t, 3)
	ask(t, u, 0, refused("x"))
	want(t, "Run of one pick", u.Run(1), 1)
	want(t, "Pick", u.Pick(0), true)
	s := u.Story()
	if o := s.Ops[len(s.Ops)-1]; o.Open || o.End != api.MaxPlay || o.Reply.Err != api.ErrTtl {
		t.Errorf("the last op: %s", show(o))
	}
	wantOver(t, "an answer", u)
}

// TestP15_4_MaxPlay: the last moment may be a Crash's.
func TestP15_4_MaxPlay(t *testing.T) {
	u := old(t, 1)
	want(t, "Crash that At refuses", u.Crash(torn(0, 129)), api.ErrArg)
	wantMoment(t, u, "it", api.MaxPlay-1)
	want(t, "Crash", u.Crash(nothing()), api.OK)
	s := u.Story()
	if o := s.Ops[len(s.Ops)-1]; !o.Open || o.End != api.MaxPlay {
		t.Errorf("the last op: %s", show(o))
	}
	want(t, "lives", s.Lives, 2)
	wantOver(t, "Crash", u)
}

// TestP15_6_MaxPlay: acts behind MaxPlay moments change nothing; but a kind that there is not is one still.
func TestP15_6_MaxPlay(t *testing.T) {
	c := slow()
	var acts []api.Act
	for range 1400 {
		acts = append(acts, askAct(0, tick("t", 1)), runAct(1000))
	}
	s := played(t, c, acts...)
	want(t, "moments", s.Moment, api.MaxPlay)
	if len(s.Ops) < 1300 || len(s.Ops) > 1399 || !s.Ops[len(s.Ops)-1].Open {
		t.Errorf("%d ops, the last %s", len(s.Ops), show(s.Ops[len(s.Ops)-1]))
	}
	if l := fault(s, empty(c), false); l != "" {
		t.Error(l)
	}
	more := append(acts, crashAct(nothing()), askAct(1, refused("x")), pickAct(0, greatest), pickAct(1, 1), runAct(greatest), crashAct(kept(0)))
	if again := played(t, c, more...); !sameStory(s, again) {
		t.Errorf("acts behind MaxPlay moments: %s", storyWords(again))
	}
	wantAct(t, "behind MaxPlay moments", c, api.ErrAct, append(more, api.Act{Kind: 5})...)
	wantAct(t, "ahead of acts that do nothing any more", c, api.ErrAct, append(append(more, api.Act{}), acts[:2]...)...)
}
