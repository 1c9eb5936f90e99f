package till_test

import (
	"strings"
	"testing"

	"larder/api"
	"larder/mend"
	"larder/stock"
	"larder/till"
)

// effects are requests of each kind that has an effect, which a ledger does one behind the other.
func effects() []api.Request {
	return []api.Request{
		restock("1", line("a", 9), line("b", 6), line("a", 1)), hold("h", 50, line("b", 2), line("a", 3)), hold("i", 50, line("a", 1)), hold("j", 3, line("b", 1)),
		writeoff("w", line("a", 2)), extend("e", "i", 70), commit("c", "h"), tick("t", 10), release("r", "i"), tick("u", 4),
	}
}

// TestP15_9_AskedAgain: each kind of request that was answered OK and had an effect: behind a crash it has its first reply and no effect, be its record in the log or in a checkpoint.
func TestP15_9_AskedAgain(t *testing.T) {
	c := wide()
	for _, saved := range []int{-1, 0, 4, 9} {
		u := fresh(t, c)
		var first []api.Reply
		for i, r := range effects() {
			first = append(first, done(t, u, i%4, r))
			want(t, "first reply", first[i].Err, api.OK)
			if i == saved {
				want(t, "a Save", done(t, u, 3, save("s")).Err, api.OK)
			}
		}
		for _, x := range []api.Crash{nothing(), kept(0, 1, 2), torn(0, 64)} {
			crash(t, u, x)
			s := u.State()
			want(t, "effects", s.Lsn, len(effects()))
			for i, r := range effects() {
				if got := done(t, u, (i+1)%4, r); !sameReply(got, first[i]) {
					t.Errorf("%s, asked again: %s, first %s", show(r), show(got), show(first[i]))
				}
				r.Ttl++
				if got := done(t, u, i%4, r); got.Err == api.OK {
					t.Errorf("another request with the Id %s: %s", r.Id, show(got))
				}
				wantState(t, u, s)
			}
			wantHolds(t, u, c)
		}
	}
}

// TestP15_9_Forgotten: a Tick lets requests be forgotten; then they are asked anew, behind a crash too.
func TestP15_9_Forgotten(t *testing.T) {
	c := plain()
	u := fresh(t, c)
	r := restock("1", line("a", 5))
	done(t, u, 0, r)
	done(t, u, 0, tick("t", api.KeptFor-1))
	crash(t, u, nothing())
	done(t, u, 0, r)
	want(t, "a, while it is remembered", u.State().Levels[0].OnHand, 5)
	done(t, u, 0, tick("u", api.KeptFor))
	crash(t, u, nothing())
	done(t, u, 0, r)
	want(t, "a, when it is forgotten", u.State().Levels[0].OnHand, 10)
	wantHolds(t, u, c)
}

// TestP15_9_Durable: behind every pick of a run, a crash that keeps nothing brings back at least as many effects as were durable, and all whose replies were told.
func TestP15_9_Durable(t *testing.T) {
	c := wide()
	for n := 0; ; n++ {
		u := fresh(t, c)
		done(t, u, 0, restock("0", line("a", 9), line("b", 9)))
		for h, r := range []api.Request{hold("h", 9, line("a", 1)), hold("i", 9, line("b", 1)), restock("1", line("c", 1)), read("r", "a", "b")} {
			ask(t, u, h, r)
		}
		ended := u.Run(n) < n
		durable, told := u.View().Durable, 0
		for _, o := range u.Story().Ops {
			if !o.Open && stock.Changes(o.Request.Kind) {
				told++
			}
		}
		crash(t, u, nothing())
		if lsn := u.State().Lsn; lsn < durable || lsn < told {
			t.Fatalf("%d picks: %d effects came back, %d were durable, %d told", n, lsn, durable, told)
		}
		wantHolds(t, u, c)
		if ended {
			want(t, "effects in the end", u.State().Lsn, 4)
			return
		}
	}
}

// TestP15_9_Seen: what an answer lets be seen is not lost either: another request's effect that is noted and not yet safe, when somebody is answered that has seen it.
func TestP15_9_Seen(t *testing.T) {
	long := strings.Repeat("x", 64)
	for name, x := range map[string]struct {
		lsn    int // of the state at first
		ahead  []api.Request
		effect api.Request
		seen   api.Request
		e      api.Errno
	}{
		"a Read":               {0, nil, restock("1", line("a", 5)), read("r", "a"), api.OK},
		"a Read of more":       {0, nil, restock("1", line("a", 5), line("b", 5)), read("r", "b", "a"), api.OK},
		"its first reply":      {0, nil, restock("1", line("a", 5)), restock("1", line("a", 5)), api.OK},
		"another of its name":  {0, nil, restock("1", line("a", 5)), restock("1", line("a", 6)), api.ErrOther},
		"too few":              {0, []api.Request{restock("0", line("a", 5))}, hold("1", 9, line("a", 3)), hold("2", 9, line("a", 3)), api.ErrStock},
		"too many":             {0, nil, restock("1", line("a", api.MaxStock)), restock("2", line("a", 1)), api.ErrOver},
		"a hold that is gone":  {0, []api.Request{restock("0", line("a", 5)), hold("h", 9, line("a", 1))}, commit("1", "h"), release("2", "h"), api.ErrNoHold},
		"a hold that lapsed":   {0, []api.Request{restock("0", line("a", 5)), hold("h", 9, line("a", 1))}, tick("1", 9), release("2", "h"), api.ErrNoHold},
		"a hold that is there": {0, []api.Request{restock("0", line("a", 5)), hold("h", 2*api.KeptFor, line("a", 1))}, tick("1", api.KeptFor), hold("h", 9, line("a", 1)), api.ErrThere},
		"no room":              {0, []api.Request{restock(long, line("a", 5))}, restock("1"+long[:20], line("a", 5)), restock("2"+long[:20], line("b", 5)), api.ErrFull},
		"no numbers":           {api.MaxLsn - 1, nil, restock("1", line("a", 5)), restock("2", line("b", 5)), api.ErrEnd},
		"an effect upon it":    {0, nil, restock("1", line("a", 5)), hold("2", 9, line("a", 5)), api.OK},
		"a checkpoint":         {0, nil, restock("1", line("a", 5)), save("s"), api.OK},
	} {
		c := wide()
		if x.e == api.ErrFull {
			c.Slot = 4
		}
		s := empty(c)
		s.Lsn = x.lsn
		u := opened(t, imageOf(t, c, 1, s), c)
		for _, r := range x.ahead {
			want(t, name+": ahead of it", done(t, u, 0, r).Err, api.OK)
		}
		ask(t, u, 0, x.effect)
		to(t, u, 0, api.PhaseWait)
		lsn := u.State().Lsn
		if durable := u.View().Durable; durable >= lsn {
			t.Fatalf("%s: %d of %d effects are durable", name, durable, lsn)
		}
		want(t, name, done(t, u, 1, x.seen).Err, x.e)
		crash(t, u, nothing())
		if u.State().Lsn < lsn {
			t.Errorf("%s: %d of %d effects came back", name, u.State().Lsn, lsn)
		}
		wantHolds(t, u, c)
	}
}

// TestP15_10_OnceMore: the power fails behind a recovery, again and again; and behind every operation of one, with every choice, and behind every operation of the recovery that comes then.
func TestP15_10_OnceMore(t *testing.T) {
	c := plain()
	p := pairOf(t, formatted(t, c), c, nil)
	p.ask(0, restock("1", line("a", 5)))
	p.run(greatest)
	p.ask(0, hold("h", 9, line("a", 2)))
	for phase := 0; phase != api.PhaseBarrier; phase, _ = p.u.Phase(0) {
		p.pick(0)
	}
	looked := 0
	for _, x := range []api.Crash{nothing(), kept(0), torn(0, 64)} {
		image, _ := p.w.d.At(p.w.d.Count(), x)
		s := opened(t, image, c).State()
		cutOff(t, c, image, func(left []byte) {
			wantBack(t, left, c, s)
			cutOff(t, c, left, func(left []byte) {
				wantBack(t, left, c, s)
				looked++
			})
		})
	}
	if looked < 200 {
		t.Errorf("%d were looked at alone", looked)
	}
}

// cutOff goes over what is left of an image when the power fails in the midst of its recovery, or behind it.
func cutOff(t *testing.T, c api.Config, image []byte, look func(left []byte)) {
	t.Helper()
	d := diskOf(t, image, c)
	if _, _, _, e := mend.Recover(d, c); e != api.OK {
		t.Fatalf("Recover: %d", e)
	}
	for n := range d.Count() + 1 {
		for x := range d.Choices(n) {
			left, _ := d.At(n, x)
			look(left)
		}
	}
}

// wantBack asks that a state comes back, and that it stays behind further crashes.
func wantBack(t *testing.T, image []byte, c api.Config, s api.State) {
	t.Helper()
	u, e := till.Open(image, c)
	if e != api.OK || !sameState(u.State(), s) {
		t.Fatalf("%d, %s; want %s", e, show(u.State()), show(s))
	}
	for _, x := range []api.Crash{nothing(), kept(0, 1, 2, 3), torn(1, 64, 0)} {
		crash(t, u, x)
		wantState(t, u, s)
	}
}
