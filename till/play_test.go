package till_test

import (
	"math/rand"
	"slices"
	"testing"

	"larder/api"
	"larder/till"
)

// played answers the story of acts that must be taken.
func played(t *testing.T, c api.Config, acts ...api.Act) api.Story {
	t.Helper()
	s, e := till.Play(c, acts)
	if e != api.OK {
		t.Fatalf("Play: %d", e)
	}
	return s
}

// byHand does acts with a till of a new store, as P15.6 says.
func byHand(t *testing.T, c api.Config, acts []api.Act) api.Story {
	t.Helper()
	u := fresh(t, c)
	for _, a := range acts {
		switch a.Kind {
		case api.ActAsk:
			u.Ask(a.H, a.Request)
		case api.ActPick:
			for n := 0; n < a.N && u.Pick(a.H); n++ {
			}
		case api.ActRun:
			u.Run(a.N)
		case api.ActCrash:
			u.Crash(a.Crash)
		default:
			t.Fatalf("kind %d", a.Kind)
		}
	}
	return u.Story()
}

// wantPlayed asks that Play tells what a till does that is given the acts by hand.
func wantPlayed(t *testing.T, name string, c api.Config, acts ...api.Act) api.Story {
	t.Helper()
	got, want := played(t, c, acts...), byHand(t, c, acts)
	if !sameStory(got, want) {
		t.Errorf("%s: %s\nwant %s", name, storyWords(got), storyWords(want))
	}
	return got
}

// TestP15_6_Kinds: each kind of act.
func TestP15_6_Kinds(t *testing.T) {
	c := plain()
	r := restock("1", line("a", 5))
	s := wantPlayed(t, "nothing", c)
	if !sameStory(s, api.Story{State: empty(c), Lives: 1}) {
		t.Errorf("nothing: %s", storyWords(s))
	}
	s = wantPlayed(t, "an Ask", c, askAct(1, r))
	if !sameStory(s, api.Story{Ops: []api.Op{{Request: r, Begin: 1, End: api.MaxMoment, Open: true}}, State: empty(c), Lives: 1, Moment: 1}) {
		t.Errorf("an Ask: %s", storyWords(s))
	}
	want(t, "moment behind 3 picks", wantPlayed(t, "picks", c, askAct(1, r), pickAct(1, 3)).Moment, 4)
	want(t, "moment behind 3 picks of another", wantPlayed(t, "picks of another", c, askAct(1, r), pickAct(0, 3)).Moment, 1)
	want(t, "moment behind a Run of 4", wantPlayed(t, "a Run", c, askAct(1, r), runAct(4)).Moment, 3)
	s = wantPlayed(t, "a Run to the end", c, askAct(1, r), runAct(greatest))
	if len(s.Ops) != 1 || s.Ops[0].Open || s.Ops[0].End != s.Moment || !sameState(s.State, behind(t, empty(c), r)) {
		t.Errorf("a Run: %s", storyWords(s))
	}
	s = wantPlayed(t, "a Crash", c, askAct(1, r), crashAct(nothing()))
	want(t, "lives", s.Lives, 2)
	want(t, "moment", s.Moment, 2)
	want(t, "lives behind a Crash at once", wantPlayed(t, "a Crash", c, crashAct(kept(0))).Lives, 2)
}

// TestP15_6_Picks: N picks, or as many as answer true.
func TestP15_6_Picks(t *testing.T) {
	c := plain()
	for _, n := range []int{least, -1, 0} {
		want(t, "moment behind no picks", wantPlayed(t, "no picks", c, askAct(0, refused("1")), pickAct(0, n)).Moment, 1)
	}
	for n, moment := range []int{1, 2, 3, 3, 3, 3} {
		want(t, "moment", wantPlayed(t, "picks", c, askAct(0, refused("1")), pickAct(0, n)).Moment, moment)
	}
	want(t, "moment behind the greatest number of picks", wantPlayed(t, "many picks", c, askAct(0, refused("1")), pickAct(0, greatest)).Moment, 3)
	for _, h := range []int{-1, 1, 2, least, greatest} {
		want(t, "moment behind picks of one that is idle or is not there", wantPlayed(t, "picks", c, askAct(0, refused("1")), pickAct(h, greatest)).Moment, 1)
	}
	// One that is blocked is not picked on when another has gone on.
	same := restock("1", line("a", 5))
	s := wantPlayed(t, "one that is blocked", c, askAct(0, same), askAct(1, same), pickAct(0, 6), pickAct(1, greatest), pickAct(0, greatest))
	want(t, "the first is answered", s.Ops[0].Open, false)
	want(t, "the second is not", s.Ops[1].Open, true)
}

// TestP15_6_Refused: what acts answer is not told: they just do nothing.
func TestP15_6_Refused(t *testing.T) {
	c := plain()
	s := wantPlayed(t, "refused acts", c, askAct(-1, refused("1")), askAct(2, refused("1")), askAct(0, refused("2")), askAct(0, refused("3")),
		pickAct(7, 1), runAct(-5), crashAct(torn(0, 129)), crashAct(torn(0, -1)))
	if len(s.Ops) != 1 || s.Moment != 1 || s.Lives != 1 {
		t.Errorf("refused acts: %s", storyWords(s))
	}
}

// wantAct asks that Play refuses.
func wantAct(t *testing.T, name string, c api.Config, e api.Errno, acts ...api.Act) {
	t.Helper()
	s, got := till.Play(c, acts)
	if got != e || !sameStory(s, api.Story{}) {
		t.Errorf("%s: %d, %s; want %d", name, got, storyWords(s), e)
	}
}

// TestP15_6_NoSuchAct: a kind that there is not: first, in the midst, last.
func TestP15_6_NoSuchAct(t *testing.T) {
	c := plain()
	acts := []api.Act{askAct(0, restock("1", line("a", 5))), pickAct(0, 3), runAct(1000), crashAct(nothing())}
	for _, kind := range []int{0, 5, 9, -1, least, greatest} {
		wrong := api.Act{Kind: kind, H: 0, N: 1, Request: refused("x")}
		wantAct(t, "alone", c, api.ErrAct, wrong)
		for at := range len(acts) + 1 {
			wantAct(t, "among others", c, api.ErrAct, slices.Insert(slices.Clone(acts), at, wrong)...)
		}
	}
	wantAct(t, "the zero Act", c, api.ErrAct, api.Act{})
}

// TestP15_6_Format: Format's error, which comes ahead of an unknown kind.
func TestP15_6_Format(t *testing.T) {
	for name, x := range wrongConfigs() {
		c := plain()
		x.change(&c)
		wantAct(t, name, c, x.e)
		wantAct(t, name, c, x.e, askAct(0, restock("1", line("a", 5))), runAct(10))
		wantAct(t, name+", and a kind that there is not", c, x.e, api.Act{Kind: 9})
	}
}

// TestP15_6_ManyPlays: lists of acts of all kinds, against a till that is given them by hand; all promise P15.7 and, where nobody is at work, P15.8.
func TestP15_6_ManyPlays(t *testing.T) {
	ops, lives, busy := 0, 0, 0
	for seed := range 150 {
		c := []api.Config{plain(), wide(), brief()}[seed%3]
		d := &writer{r: rand.New(rand.NewSource(int64(seed))), codes: c.Codes, calm: seed%2 == 0}
		var acts []api.Act
		for range 60 {
			switch n := d.r.Intn(20); {
			case n < 8:
				acts = append(acts, askAct(d.r.Intn(c.Handlers+1)-n/7, d.request(empty(c))))
			case n < 15:
				acts = append(acts, pickAct(d.r.Intn(c.Handlers), d.r.Intn(30)))
			case n < 19:
				acts = append(acts, runAct(d.r.Intn(60)))
			default:
				acts = append(acts, crashAct(d.failure(3)))
			}
		}
		if seed%4 == 0 {
			acts = append(acts, runAct(api.MaxPlay))
		}
		s := wantPlayed(t, "many acts", c, acts...)
		if l := fault(s, empty(c), seed%4 == 0); l != "" {
			t.Fatalf("seed %d: %s\n%s", seed, l, storyWords(s))
		}
		if again := played(t, c, acts...); !sameStory(s, again) {
			t.Fatalf("seed %d: played again: %s", seed, storyWords(again))
		}
		ops, lives, busy = ops+len(s.Ops), lives+s.Lives, busy+s.Busy
	}
	if ops < 1500 || lives < 400 || busy < 30 {
		t.Errorf("%d ops, %d lives, %d busy alone", ops, lives, busy)
	}
}
