package till_test

import (
	"cmp"
	"slices"
	"testing"

	"larder/api"
	"larder/cart"
	"larder/disk"
	"larder/mend"
	"larder/stock"
	"larder/till"
)

// twin is a second engine, written from the document. It watches a memory of its own step by step, so that it sees in the step itself whose point has come.
type twin struct {
	c      api.Config
	d      *disk.Disk
	m      *cart.Shared
	start  api.State
	back   api.State // what this life began with
	moment int
	lives  int
	asked  []*asking
	work   []*asking // by handler
	points []*asking // of this life
	order  []*asking // of the lives that have ended
	tally  map[string]int
}

// asking is a request that was asked.
type asking struct {
	op    api.Op
	lsn   int
	noted bool
	busy  bool
}

func twinOf(t *testing.T, image []byte, c api.Config, tally map[string]int) *twin {
	t.Helper()
	w := &twin{c: c, tally: tally}
	d := diskOf(t, image, c)
	s, epoch, _, e := mend.Recover(d, c)
	if e != api.OK {
		t.Fatalf("Recover: %d", e)
	}
	w.start = s
	w.begin(d, s, epoch)
	return w
}

func (w *twin) begin(d *disk.Disk, s api.State, epoch int) {
	w.m, _ = cart.New(d, w.c, s, epoch)
	w.d, w.back = d, s
	w.lives++
	w.work = make([]*asking, w.c.Handlers)
	w.points = nil
}

func (w *twin) count(is bool, what string) {
	if is && w.tally != nil {
		w.tally[what]++
	}
}

func (w *twin) ask(h int, r api.Request) api.Errno {
	if w.moment == api.MaxPlay || len(w.asked) == api.MaxHistory {
		return api.ErrFull
	}
	e := w.m.Start(h, r)
	if e == api.OK {
		w.moment++
		a := &asking{op: api.Op{Request: copyRequest(r), Begin: w.moment, End: api.MaxMoment, Open: true}}
		w.asked = append(w.asked, a)
		w.work[h] = a
	}
	return e
}

func (w *twin) pick(h int) bool {
	if w.moment == api.MaxPlay {
		return false
	}
	phase, _ := w.m.Phase(h)
	before := w.m.Points()
	if !w.m.Step(h) {
		return false
	}
	w.moment++
	a := w.work[h]
	a.lsn = max(a.lsn, w.m.Number(h))
	w.watch(a, before)
	if phase == api.PhaseReply {
		a.op.Reply, _ = w.m.Reply(h)
		a.op.End, a.op.Open = w.moment, false
		a.busy = a.op.Reply.Err == api.ErrBusy
		w.work[h] = nil
		w.countReply(a)
	}
	return true
}

// watch sees whether a request's point has come in a step of its handler: where the list has become another one there it stands. (One that is like its neighbour is of the same handler, and behind it.)
func (w *twin) watch(a *asking, before []api.Point) {
	now := w.m.Points()
	if len(now) == len(before) {
		return
	}
	at := 0
	for at < len(before) && before[at] == now[at] {
		at++
	}
	w.points = slices.Insert(w.points, at, a)
	a.noted = now[at].Lsn > 0
	w.count(at < len(before), "a Read's point among others")
}

func (w *twin) countReply(a *asking) {
	w.count(true, "told")
	w.count(a.busy, "told ErrBusy")
	w.count(!a.busy && a.op.Reply.Err != api.OK, "refused")
	w.count(a.op.Reply.Err == api.ErrFull, "told ErrFull")
	w.count(a.op.Reply.Err == api.OK && a.lsn == 0 && stock.Changes(a.op.Request.Kind), "a first reply")
}

func (w *twin) isIdle() bool {
	return !slices.ContainsFunc(w.work, func(a *asking) bool { return a != nil })
}

func (w *twin) run(most int) int {
	n := 0
	for h := 0; n < most && w.moment < api.MaxPlay && !w.isIdle(); h = (h + 1) % w.c.Handlers {
		w.pick(h)
		n++
	}
	return n
}

func (w *twin) crash(c api.Crash) api.Errno {
	if w.moment == api.MaxPlay {
		return api.ErrFull
	}
	image, e := w.d.At(w.d.Count(), c)
	if e != api.OK {
		return e
	}
	d, _ := disk.New(image, w.c.Sectors)
	s, epoch, _, e := mend.Recover(d, w.c)
	if e != api.OK {
		return e
	}
	w.moment++
	w.cut(s.Lsn)
	w.begin(d, s, epoch)
	return api.OK
}

// cut ends this life, if the effects up to a number came through.
func (w *twin) cut(safe int) {
	var rest []*asking
	through := func(a *asking) bool { return a.lsn > 0 && a.lsn <= safe }
	for _, a := range w.work {
		if a == nil {
			continue
		}
		a.op.End = w.moment
		w.count(true, "cut off")
		w.count(a.lsn == 0, "cut off without a number")
		w.count(a.noted && through(a), "cut off, noted, safe")
		w.count(a.noted && !through(a), "cut off, noted, not safe")
		w.count(a.lsn > 0 && !a.noted && !through(a), "cut off, not noted, not safe")
		if through(a) && !a.noted {
			w.count(true, "cut off, not noted, safe")
			rest = append(rest, a)
		}
	}
	w.count(len(rest) > 1, "several cut off, not noted, safe")
	for _, a := range w.points {
		if !a.op.Open || through(a) {
			w.order = append(w.order, a)
		}
	}
	slices.SortFunc(rest, func(a, b *asking) int { return cmp.Compare(a.lsn, b.lsn) })
	w.order = append(w.order, rest...)
}

func (w *twin) story() api.Story {
	s := api.Story{State: w.m.State(), Lives: w.lives, Moment: w.moment}
	number := map[*asking]int{}
	for _, a := range w.asked {
		if a.busy {
			s.Busy++
			continue
		}
		number[a] = len(s.Ops)
		s.Ops = append(s.Ops, a.op)
	}
	for _, a := range w.order {
		s.Order = append(s.Order, number[a])
	}
	for _, a := range w.points {
		if !a.op.Open || a.noted {
			s.Order = append(s.Order, number[a])
		}
	}
	return s
}

func (w *twin) looks() looks {
	l := looks{story: w.story(), state: w.m.State(), start: w.start, view: w.m.View(), image: w.d.Image()}
	for h := -1; h <= w.c.Handlers; h++ {
		phase, i := w.m.Phase(h)
		reply, told := w.m.Reply(h)
		l.phases = append(l.phases, api.Pair{A: phase, B: i})
		l.reply = append(l.reply, reply)
		l.told = append(l.told, told)
		if phase > api.PhaseIdle && w.m.On(h) == -1 {
			l.ready = append(l.ready, h)
		}
	}
	return l
}

// pair is a till with its twin: what is done with one is done with the other, and behind it they look alike.
type pair struct {
	t      *testing.T
	u      *till.Till
	w      *twin
	broken bool
}

func pairOf(t *testing.T, image []byte, c api.Config, tally map[string]int) *pair {
	t.Helper()
	p := &pair{t: t, u: opened(t, image, c), w: twinOf(t, image, c, tally)}
	p.compare("Open")
	return p
}

func (p *pair) fail(form string, args ...any) {
	p.t.Helper()
	p.broken = true
	p.t.Errorf(form, args...)
}

// compare asks that both look alike, and for P15.7 and P15.8.
func (p *pair) compare(what string) {
	p.t.Helper()
	got := looksOf(p.u, p.w.c)
	if l := got.differs(p.w.looks()); l != "" {
		p.fail("behind %s: %s", what, l)
	}
	if l := fault(got.story, got.start, p.w.isIdle()); l != "" {
		p.fail("behind %s: %s\n%s", what, l, storyWords(got.story))
	}
}

func (p *pair) ask(h int, r api.Request) api.Errno {
	p.t.Helper()
	got, e := p.u.Ask(h, r), p.w.ask(h, r)
	if got != e {
		p.fail("Ask(%d, %s): %d, want %d", h, show(r), got, e)
	}
	p.compare("Ask")
	return got
}

func (p *pair) pick(h int) bool {
	p.t.Helper()
	got, was := p.u.Pick(h), p.w.pick(h)
	if got != was {
		p.fail("Pick(%d): %v, want %v", h, got, was)
	}
	p.compare("Pick")
	return got
}

func (p *pair) run(most int) int {
	p.t.Helper()
	got, n := p.u.Run(most), p.w.run(most)
	if got != n {
		p.fail("Run(%d): %d, want %d", most, got, n)
	}
	p.compare("Run")
	return got
}

func (p *pair) crash(c api.Crash) api.Errno {
	p.t.Helper()
	got, e := p.u.Crash(c), p.w.crash(c)
	if got != e {
		p.fail("Crash(%s): %d, want %d", show(c), got, e)
	}
	p.compare("Crash")
	return got
}
