package till_test

import (
	"slices"
	"testing"

	"larder/api"
)

// TestP15_4_At: the errors of the disk's At: nothing changes.
func TestP15_4_At(t *testing.T) {
	c := plain()
	u := fresh(t, c)
	for _, phase := range []int{api.PhaseIdle, api.PhaseNote, api.PhaseBarrier} {
		if phase != api.PhaseIdle {
			u.Ask(0, restock("1", line("a", 5)))
			to(t, u, 0, phase)
		}
		was := looksOf(u, c)
		for _, size := range []int{least, -1, 129, greatest} {
			for _, x := range []api.Crash{torn(0, size), torn(-1, size, 0), torn(greatest, size)} {
				want(t, "Crash", u.Crash(x), api.ErrArg)
				wantSame(t, "a Crash that is refused", u, c, was)
			}
		}
	}
	moment := u.Story().Moment
	want(t, "Crash", u.Crash(torn(0, 128)), api.OK)
	wantMoment(t, u, "a Crash", moment+1)
	wantState(t, u, behind(t, empty(c), restock("1", line("a", 5))))
}

// TestP15_4_Recover: an error of mend.Recover: the till is as it was, and goes on.
func TestP15_4_Recover(t *testing.T) {
	c := plain()
	p := pairOf(t, imageOf(t, c, api.MaxLife-3, empty(c)), c, nil)
	p.ask(0, restock("1", line("a", 5)))
	p.run(7)
	want(t, "a crash ahead of the last life", p.crash(nothing()), api.OK)
	want(t, "life", p.u.View().Life, api.MaxLife-1)
	p.ask(0, restock("1", line("a", 5)))
	p.ask(1, hold("h", 10, line("b", 1)))
	for phase := 0; phase != api.PhaseBarrier; phase, _ = p.u.Phase(0) {
		was := looksOf(p.u, c)
		for _, x := range []api.Crash{nothing(), kept(0), torn(0, 60), torn(7, 128, 9, -1)} {
			want(t, "a crash in the last life", p.u.Crash(x), api.ErrEnd)
			wantSame(t, "a crash in the last life", p.u, c, was)
		}
		want(t, "one that At refuses too", p.u.Crash(torn(0, 129)), api.ErrArg)
		p.pick(0)
	}
	p.run(greatest)
	want(t, "nobody is at work", isIdle(p.u, c), true)
	wantState(t, p.u, behind(t, empty(c), restock("1", line("a", 5))))
	want(t, "lives", p.u.Story().Lives, 2)
	want(t, "a crash when nobody is at work", p.u.Crash(nothing()), api.ErrEnd)
	want(t, "lives", p.u.Story().Lives, 2)
}

// TestP15_4_NewLife: behind a crash all handlers are idle and have had no reply, and a new life goes on from what came back.
func TestP15_4_NewLife(t *testing.T) {
	c := plain()
	u := fresh(t, c)
	first := restock("1", line("a", 5))
	done(t, u, 1, first)
	ask(t, u, 0, hold("h", 10, line("a", 2)))
	ask(t, u, 1, hold("i", 10, line("a", 2)))
	to(t, u, 0, api.PhaseNote)
	moment := u.Story().Moment
	crash(t, u, nothing())
	s := behind(t, empty(c), first)
	wantState(t, u, s)
	want(t, "ready", len(u.Ready()), 0)
	for h := range 2 {
		phase, _ := u.Phase(h)
		want(t, "phase", phase, api.PhaseIdle)
		if x, told := u.Reply(h); told || !sameReply(x, api.Reply{}) {
			t.Errorf("a reply of the life that has ended: %s", show(x))
		}
		want(t, "Pick", u.Pick(h), false)
	}
	want(t, "Run", u.Run(10), 0)
	v := u.View()
	if v.Life != 3 || v.Given != 1 || v.Noted != 1 || v.Durable != 1 || v.Flusher != -1 || v.Weight != v.Reserved || v.Free != c.Sectors-2*c.Slot {
		t.Errorf("view: %+v", v)
	}
	story := u.Story()
	want(t, "lives", story.Lives, 2)
	want(t, "moment", story.Moment, moment+1)
	want(t, "ops", len(story.Ops), 3)
	if got := u.Start(); !sameState(got, empty(c)) {
		t.Errorf("Start: %s", show(got))
	}
	if x := done(t, u, 0, hold("i", 10, line("a", 2))); !sameReply(x, api.Reply{Id: "i", Now: 10}) {
		t.Errorf("asked in the next life: %s", show(x))
	}
	wantHolds(t, u, c)
}

// TestP15_4_What: what is left of the loose writes, and of no others.
func TestP15_4_What(t *testing.T) {
	c := plain()
	r := restock("1", line("a", 5))
	for name, x := range map[string]struct {
		c       api.Crash
		through bool
	}{
		"nothing":                     {nothing(), false},
		"the zero Crash":              {api.Crash{}, false}, // it tears write 0 at byte 0
		"all":                         {kept(0), true},
		"all, twice":                  {kept(0, 0), true},
		"one that is none":            {kept(1, -1, greatest, least), false},
		"torn in the midst":           {torn(0, 64), false},
		"torn at its end":             {torn(0, 128), true},
		"torn, and kept all the same": {torn(0, 3, 0), true},
		"another one torn":            {torn(1, 128), false},
	} {
		u := fresh(t, c)
		ask(t, u, 0, r)
		to(t, u, 0, api.PhaseBarrier)
		crash(t, u, x.c)
		s := empty(c)
		if x.through {
			s = behind(t, s, r)
		}
		if !sameState(u.State(), s) || len(u.Story().Order) != s.Lsn {
			t.Errorf("%s: %s", name, storyWords(u.Story()))
		}
		// What a Barrier has made safe stays, whatever is left.
		u = fresh(t, c)
		ask(t, u, 0, r)
		to(t, u, 0, api.PhaseBarrier)
		u.Pick(0)
		crash(t, u, x.c)
		if !sameState(u.State(), behind(t, empty(c), r)) || !slices.Equal(u.Story().Order, []int{0}) || !u.Story().Ops[0].Open {
			t.Errorf("%s, behind a Barrier: %s", name, storyWords(u.Story()))
		}
	}
}

// TestP15_4_AgainAndAgain: crash upon crash: each is a life, and the state stays.
func TestP15_4_AgainAndAgain(t *testing.T) {
	c := plain()
	u := fresh(t, c)
	done(t, u, 0, restock("1", line("a", 5)))
	s := u.State()
	for i := range 40 {
		moment := u.Story().Moment
		crash(t, u, torn(i-3, 3*i, i%5, i%3))
		wantState(t, u, s)
		want(t, "life", u.View().Life, 3+i)
		want(t, "lives", u.Story().Lives, 2+i)
		wantMoment(t, u, "a Crash", moment+1)
		if x := done(t, u, i%2, restock("1", line("a", 5))); !sameReply(x, api.Reply{Id: "1"}) {
			t.Fatalf("asked again: %s", show(x))
		}
		wantState(t, u, s)
	}
	wantHolds(t, u, c)
}
