package till_test

import (
	"slices"
	"testing"

	"larder/api"
	"larder/sched"
	"larder/till"
)

// TestExample1: no acts, and one that there is not.
func TestExample1(t *testing.T) {
	s := played(t, plain())
	if len(s.Ops) != 0 || s.Lives != 1 || s.Moment != 0 {
		t.Errorf("no acts: %s", storyWords(s))
	}
	wantAct(t, "kind 9", plain(), api.ErrAct, api.Act{Kind: 9})
}

// TestExample2: a Restock that runs out.
func TestExample2(t *testing.T) {
	s := played(t, plain(), askAct(0, restock("1", line("a", 5))), runAct(100))
	if len(s.Ops) != 1 || s.Ops[0].Begin != 1 || s.Ops[0].Open || !slices.Equal(s.Order, []int{0}) || s.State.Levels[0] != (api.Level{Code: "a", OnHand: 5}) {
		t.Errorf("%s", storyWords(s))
	}
}

// TestExample3: the same with a crash in Run's place.
func TestExample3(t *testing.T) {
	s := played(t, plain(), askAct(0, restock("1", line("a", 5))), crashAct(nothing()))
	if len(s.Ops) != 1 || !s.Ops[0].Open || s.Ops[0].End != 2 || len(s.Order) != 0 || s.State.Levels[0] != (api.Level{Code: "a"}) || s.Lives != 2 {
		t.Errorf("%s", storyWords(s))
	}
}

// picksTo answers how many picks it takes until a request that is alone has written its record.
func picksTo(t *testing.T, c api.Config, r api.Request) int {
	t.Helper()
	u := fresh(t, c)
	ask(t, u, 0, r)
	to(t, u, 0, api.PhaseBarrier)
	return u.Story().Moment - 1
}

// TestExample4: its effect came through, though nobody was told.
func TestExample4(t *testing.T) {
	r := restock("1", line("a", 5))
	acts := []api.Act{askAct(0, r), pickAct(0, picksTo(t, plain(), r)), crashAct(kept(0))}
	s := played(t, plain(), acts...)
	if !s.Ops[0].Open || !slices.Equal(s.Order, []int{0}) || s.State.Levels[0] != (api.Level{Code: "a", OnHand: 5}) {
		t.Errorf("%s", storyWords(s))
	}
	s = played(t, plain(), append(acts, askAct(1, r), runAct(100))...)
	if s.Ops[1].Open || !sameReply(s.Ops[1].Reply, api.Reply{Id: "1"}) || s.State.Lsn != 1 || !slices.Equal(s.Order, []int{0, 1}) {
		t.Errorf("asked again: %s", storyWords(s))
	}
}

// TestExample5: the same with the write torn.
func TestExample5(t *testing.T) {
	r := restock("1", line("a", 5))
	s := played(t, plain(), askAct(0, r), pickAct(0, picksTo(t, plain(), r)), crashAct(torn(0, 60)))
	if !s.Ops[0].Open || len(s.Order) != 0 || s.State.Lsn != 0 {
		t.Errorf("%s", storyWords(s))
	}
}

// TestExample6: two holds of 3 of a 5, run in many ways: a mix of picks, and then fair ones.
func TestExample6(t *testing.T) {
	steps := []int{12, 12}
	all, _ := sched.Count(steps)
	for n := range 400 {
		picks, e := sched.Nth(steps, all/400*n)
		if e != api.OK {
			t.Fatal(e)
		}
		u := fresh(t, plain())
		done(t, u, 0, restock("1", line("a", 5)))
		ask(t, u, 0, hold("h", 10, line("a", 3)))
		ask(t, u, 1, hold("i", 10, line("a", 3)))
		for _, h := range picks {
			u.Pick(h)
		}
		for h := range sched.Mixed(uint64(n), 2, 9) {
			if u.Pick(h); isIdle(u, plain()) {
				break
			}
		}
		x, _ := u.Reply(0)
		y, _ := u.Reply(1)
		if x.Err == y.Err || x.Err+y.Err != api.ErrStock || u.State().Levels[0] != (api.Level{Code: "a", OnHand: 5, Held: 3}) {
			t.Fatalf("mix %d: %s, %s, %s", n, show(x), show(y), show(u.State()))
		}
		wantHolds(t, u, plain())
	}
}

// cutHold answers a till in which the power has failed while a Hold's record was loose.
func cutHold(t *testing.T, x api.Crash) *till.Till {
	t.Helper()
	u := fresh(t, plain())
	done(t, u, 0, restock("1", line("a", 5)))
	done(t, u, 0, tick("t", 7))
	ask(t, u, 0, hold("h", 10, line("a", 3)))
	to(t, u, 0, api.PhaseBarrier)
	crash(t, u, x)
	return u
}

// TestWhole3: examples 3 and 4 of the whole: a Hold whose record was loose is there or not; sent again it is OK either way, with the same deadline if it was there. Torn it is not there.
func TestWhole3(t *testing.T) {
	for name, x := range map[string]struct {
		c     api.Crash
		holds int
	}{"kept": {kept(0), 1}, "not kept": {nothing(), 0}, "torn": {torn(0, 60), 0}} {
		u := cutHold(t, x.c)
		want(t, name+": holds", len(u.State().Holds), x.holds)
		if got := done(t, u, 1, hold("h", 10, line("a", 3))); !sameReply(got, api.Reply{Id: "h", Now: 17}) {
			t.Errorf("%s: sent again: %s", name, show(got))
		}
		want(t, name+": held", u.State().Levels[0].Held, 3)
		// With the clock gone on ahead of it: the same deadline, if it was there.
		u = cutHold(t, x.c)
		done(t, u, 0, tick("u", 9))
		if got := done(t, u, 1, hold("h", 10, line("a", 3))); !sameReply(got, api.Reply{Id: "h", Now: 19 - 2*x.holds}) {
			t.Errorf("%s: sent again later: %s", name, show(got))
		}
		wantHolds(t, u, plain())
	}
}

// TestWhole7: example 7 of the whole: the log is full: ErrBusy; Save; asked again: OK.
func TestWhole7(t *testing.T) {
	u := fresh(t, brief())
	want(t, "the first", done(t, u, 0, restock("1", line("a", 5))).Err, api.OK)
	want(t, "the second", done(t, u, 0, restock("2", line("a", 5))).Err, api.ErrBusy)
	want(t, "a Save", done(t, u, 1, save("s")).Err, api.OK)
	want(t, "asked again", done(t, u, 0, restock("2", line("a", 5))).Err, api.OK)
	s := u.Story()
	want(t, "busy", s.Busy, 1)
	want(t, "lives", s.Lives, 1)
	want(t, "ops", len(s.Ops), 3)
	wantHolds(t, u, brief())
}
