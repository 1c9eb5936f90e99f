package till_test

import (
	"math/rand"
	"strconv"
	"testing"

	"larder/api"
	"larder/mend"
	"larder/stock"
	"larder/till"
)

// play asks and picks at random, and lets the power fail; in the end all run out in turn. In each run some phase is one in which handlers are seldom picked, so that others come between there.
func (p *pair) play(d *writer, turn, steps int) {
	p.t.Helper()
	slow := []int{api.PhaseNote, api.PhaseWait, api.PhaseOdd, api.PhaseBarrier, api.PhaseWrite, api.PhaseApply, api.PhaseAgain, api.PhaseReply, api.PhaseEven, api.PhaseBody, api.PhaseHead, api.PhaseSwitch, api.PhaseIdle}
	shunned := slow[turn%len(slow)]
	for range steps {
		if p.broken {
			return
		}
		h := d.r.Intn(p.w.c.Handlers)
		if p.w.work[h] == nil && d.r.Intn(3) > 0 {
			p.ask(h, d.request(p.w.m.State()))
		}
		switch n := d.r.Intn(200); {
		case n == 0:
			p.run(d.r.Intn(40))
		case n == 1:
			p.ask(d.r.Intn(p.w.c.Handlers+2)-1, d.request(p.w.m.State()))
		case n == 2:
			p.pick(d.r.Intn(p.w.c.Handlers+2) - 1)
		case n < 3+p.danger():
			p.lose(d)
		default:
			for range 5 { // mostly one that can go on
				if phase, _ := p.w.m.Phase(h); p.w.work[h] == nil || p.w.m.On(h) != -1 || phase == shunned {
					h = d.r.Intn(p.w.c.Handlers)
				}
			}
			p.pick(h)
		}
	}
	p.runOut()
}

// danger says how often of 200 times the power fails: seldom; more often while writes are loose, or while a request has a number, or is safe, and is not noted.
func (p *pair) danger() int {
	n := 1
	if len(p.w.d.Pending()) > 0 {
		n = 6
	}
	for _, a := range p.w.work {
		switch {
		case a == nil || a.lsn == 0 || a.noted:
		case a.lsn <= p.w.m.View().Durable:
			n += 20
		case len(p.w.d.Pending()) > 0:
			n += 4
		}
	}
	return n
}

// runOut: P15.11, P15.8: all end, and a store that is opened anew has the state.
func (p *pair) runOut() {
	p.t.Helper()
	if p.broken {
		return
	}
	p.run(api.MaxPlay)
	if !p.w.isIdle() {
		p.fail("Run has not come to where no handler is at work")
	}
	if p.isLast() {
		return
	}
	if v := opened(p.t, p.u.Image(), p.w.c); !sameState(v.State(), p.u.State()) || !sameState(v.Start(), p.u.State()) {
		p.fail("opened anew: %s, was %s", show(v.State()), show(p.u.State()))
	}
}

// isLast says whether no life can come behind this one.
func (p *pair) isLast() bool { return p.w.m.View().Life == api.MaxLife-1 }

// lose lets the power fail, and asks for P15.9 and P15.10 behind it.
func (p *pair) lose(d *writer) {
	p.t.Helper()
	c := d.failure(len(p.w.d.Pending()))
	durable := p.u.View().Durable
	image, _ := p.w.d.At(p.w.d.Count(), c)
	if e := p.crash(c); e != api.OK {
		if e != api.ErrEnd || !p.isLast() {
			p.fail("Crash(%s): %d", show(c), e)
		}
		p.w.count(true, "the last life")
		return
	}
	if p.broken {
		return
	}
	if lsn := p.u.State().Lsn; lsn < durable {
		p.fail("%d effects were durable, %d came back", durable, lsn)
	}
	p.w.count(p.u.State().Lsn > durable, "more came back than was durable")
	p.midst(d, image)
	if d.r.Intn(3) == 0 && !p.isLast() {
		s := p.u.State()
		p.crash(d.failure(3))
		if !sameState(p.u.State(), s) {
			p.fail("a crash behind a recovery: %s, was %s", show(p.u.State()), show(s))
		}
		p.w.count(true, "a crash behind a recovery")
	}
	p.again()
}

// midst: P15.10: the power fails once more in the midst of the recovery of an image, and again in the midst of the one that follows.
func (p *pair) midst(d *writer, image []byte) {
	p.t.Helper()
	first := diskOf(p.t, image, p.w.c)
	if _, _, _, e := mend.Recover(first, p.w.c); e != api.OK {
		p.fail("Recover: %d", e)
		return
	}
	for n := range first.Count() + 1 {
		left, _ := first.At(n, d.failure(min(n, 4)))
		if d.r.Intn(2) == 0 {
			second := diskOf(p.t, left, p.w.c)
			if _, _, _, e := mend.Recover(second, p.w.c); e == api.OK {
				left, _ = second.At(d.r.Intn(second.Count()+1), d.failure(4))
				p.w.count(true, "two recoveries cut off")
			}
		}
		v, e := till.Open(left, p.w.c)
		if e == api.ErrEnd && p.w.m.View().Life >= api.MaxLife-2 {
			continue
		}
		if e != api.OK || !sameState(v.State(), p.u.State()) || !sameState(v.Start(), p.u.State()) {
			p.fail("a recovery that was cut off behind %d operations: %d, %s; want %s", n, e, show(v.State()), show(p.u.State()))
			return
		}
		p.w.count(true, "a recovery cut off")
	}
}

// again: P15.9: what was answered OK and had an effect is remembered, and asked again has its first reply and no effect.
func (p *pair) again() {
	p.t.Helper()
	if p.isLast() {
		return
	}
	v := opened(p.t, p.u.Image(), p.w.c)
	was := p.u.State()
	kept := p.remembered()
	for _, a := range p.w.asked {
		if a.op.Open || a.op.Reply.Err != api.OK || a.lsn == 0 {
			continue
		}
		if kept[a.op.Request.Id] != a {
			p.w.count(true, "forgotten")
			continue
		}
		if x := done(p.t, v, 0, a.op.Request); !sameReply(x, a.op.Reply) {
			p.fail("asked again, %s has %s; its first reply was %s", show(a.op.Request), show(x), show(a.op.Reply))
		}
		p.w.count(true, "asked again")
	}
	if !sameState(v.State(), was) {
		p.fail("asking again had an effect: %s, was %s", show(v.State()), show(was))
	}
}

// remembered answers the requests that no Tick has let be forgotten, by their ids: those whose effects came through, in the order of the ended lives.
func (p *pair) remembered() map[string]*asking {
	clock := p.w.start.Now
	at := map[string]int{}
	kept := map[string]*asking{}
	for _, a := range p.w.order {
		if a.lsn == 0 {
			continue
		}
		r := a.op.Request
		if r.Kind == api.KindTick {
			clock = max(clock, r.Now)
			for id := range kept {
				if at[id] <= clock-api.KeptFor {
					delete(kept, id)
				}
			}
		}
		kept[r.Id], at[r.Id] = a, clock
	}
	return kept
}

// TestP15_7_ManyRuns: requests of all kinds, in many orders of picks, with power failures of any kind at any moment. Behind every act the till looks as its twin does (P15.1 to P15.5), its story is one that a ledger could have given (P15.7), and has that ledger's state where nobody is at work (P15.8); behind every crash P15.9 and P15.10.
func TestP15_7_ManyRuns(t *testing.T) {
	tally := map[string]int{}
	for n, shop := range shops() {
		for i := range shop.runs {
			s := empty(shop.c)
			s.Lsn = shop.lsn
			p := pairOf(t, imageOf(t, shop.c, shop.epoch, s), shop.c, tally)
			r := rand.New(rand.NewSource(int64(15000 + 100*n + i)))
			p.play(&writer{r: r, codes: shop.c.Codes, calm: r.Intn(2) == 0}, n+i, shop.steps)
			if p.broken {
				t.Fatalf("%s, run %d", shop.name, i)
			}
			tally["lives"] += p.w.lives
			for _, a := range p.w.asked {
				tally["kind "+strconv.Itoa(a.op.Request.Kind)]++
			}
		}
	}
	t.Log(tally)
	wantTally(t, tally, map[string]int{
		"lives": 300, "told": 1000, "told ErrBusy": 50, "told ErrFull": 3, "refused": 200, "a first reply": 50, "a Read's point among others": 10,
		"cut off": 300, "cut off without a number": 100, "cut off, noted, safe": 20, "cut off, noted, not safe": 20,
		"cut off, not noted, safe": 5, "several cut off, not noted, safe": 1, "cut off, not noted, not safe": 20,
		"more came back than was durable": 20, "asked again": 500, "forgotten": 10, "a crash behind a recovery": 50,
		"a recovery cut off": 1000, "two recoveries cut off": 300, "the last life": 1,
	})
	for kind := api.KindRestock; kind <= api.KindSave; kind++ {
		wantTally(t, tally, map[string]int{"kind " + strconv.Itoa(kind): 40})
	}
}

// wantTally asks that runs were not empty.
func wantTally(t *testing.T, tally, least map[string]int) {
	t.Helper()
	for what, n := range least {
		if tally[what] < n {
			t.Errorf("%s: %d times alone", what, tally[what])
		}
	}
}

// TestP15_8_OpenedAnew: behind each request that runs out alone, a store that is opened anew of the image has the state; and so it has behind a crash.
func TestP15_8_OpenedAnew(t *testing.T) {
	for seed := range 12 {
		c := shops()[seed%3].c
		u := fresh(t, c)
		d := &writer{r: rand.New(rand.NewSource(int64(seed))), codes: c.Codes}
		l := ledgerOf(t, u.Start())
		for range 60 {
			r := d.request(u.State())
			h := d.r.Intn(c.Handlers)
			ask(t, u, h, r)
			u.Run(greatest)
			if x, _ := u.Reply(h); x.Err != api.ErrBusy && !sameReply(x, l.Do(r)) {
				t.Fatalf("%s: %s", show(r), show(x))
			}
			wantState(t, u, l.State())
			wantState(t, opened(t, u.Image(), c), l.State())
			if d.r.Intn(6) == 0 {
				crash(t, u, d.failure(2))
				wantState(t, u, l.State())
				wantState(t, opened(t, u.Image(), c), l.State())
			}
			wantHolds(t, u, c)
			if !stock.Sound(u.State()) {
				t.Fatalf("not sound: %s", show(u.State()))
			}
		}
	}
}
