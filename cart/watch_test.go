package cart_test

import (
	"bytes"
	"fmt"
	"slices"
	"testing"

	"larder/api"
	"larder/cart"
	"larder/disk"
	"larder/lock"
	"larder/mend"
	"larder/stock"
)

// watch is a memory that is held against section 14.4 at every step, and against its twin.
type watch struct {
	t    *testing.T
	c    api.Config
	s    api.State // New's
	m    *cart.Shared
	d    *disk.Disk
	twin *twin // nil: none beside it

	asked  []*asking // by handler: what is at work
	points []*asking // those that have their point, in that order
	ledger *stock.Ledger
	before api.State // State() behind the last step
	state  api.State // and behind this one
	owner  []int     // by stripe: the handler that is in its lock, or -1
	moment int
	given  int
	safe   int // Durable, which never falls
	tally  map[string]int
	broken bool
}

// asking is a request that was asked.
type asking struct {
	request api.Request
	handler int
	lsn     int
	reply   api.Reply
	told    bool
	set     []int
	mid     bool // between its first Apply and its Note
	moment  int  // of its point: for a Read that of its last Look
	phases  []string
}

func watched(t *testing.T, c api.Config, s api.State, epoch, operations int, tally map[string]int) *watch {
	t.Helper()
	m, d := memoryAt(t, c, s, epoch, operations)
	w := &watch{t: t, c: c, s: s, m: m, d: d, asked: make([]*asking, c.Handlers), ledger: ledgerOf(t, s), before: m.State(), given: s.Lsn, safe: s.Lsn, tally: tally}
	w.twin = twinOf(t, diskOf(t, c, s, epoch, operations), c, s, epoch)
	for range c.Stripes {
		w.owner = append(w.owner, -1)
	}
	w.compare()
	return w
}

func (w *watch) fail(form string, args ...any) {
	w.t.Helper()
	w.broken = true
	w.t.Errorf(form, args...)
}

func (w *watch) compare() {
	w.t.Helper()
	if w.twin != nil {
		if l := w.twin.differs(w.m, w.d); l != "" {
			w.fail("the document asks otherwise: %s", l)
		}
	}
}

func (w *watch) start(h int, r api.Request) {
	w.t.Helper()
	if e := w.m.Start(h, r); e != api.OK {
		w.fail("Start: %d", e)
	}
	w.asked[h] = &asking{request: copyRequest(r), handler: h}
	if w.twin != nil {
		w.twin.start(h, r)
	}
	w.compare()
}

// idle says whether no handler is at work.
func (w *watch) idle() bool {
	return !slices.ContainsFunc(w.asked, func(a *asking) bool { return a != nil })
}

// step picks a handler; all that must hold at every step is asked for.
func (w *watch) step(h int) bool {
	w.t.Helper()
	phase, i := w.m.Phase(h)
	points := w.m.Points()
	blocked := w.m.On(h) != -1
	a := w.asked[h]
	went := w.m.Step(h)
	if went != (a != nil && !blocked) {
		w.fail("handler %d in %s, blocked: %v: Step: %v", h, named(phase, i), blocked, went)
	}
	if w.twin != nil {
		if was := w.twin.step(h); was != went {
			w.fail("Step: %v, want %v", went, was)
		}
	}
	if went {
		w.moment++
		w.state = w.m.State()
		a.phases = append(a.phases, named(phase, i))
		w.locksHold(a, phase, i)
		w.onePoint(a, phase, points)
		w.numbers(a, phase)
		w.same(a, phase)
		if phase == api.PhaseReply {
			w.told(a)
			w.asked[h] = nil
		}
		w.before = w.state
	}
	w.notStuck()
	w.compare()
	return went
}

// notStuck: P14.8.
func (w *watch) notStuck() {
	w.t.Helper()
	ready := false
	for h, a := range w.asked {
		phase, _ := w.m.Phase(h)
		if (a == nil) != (phase == api.PhaseIdle) {
			w.fail("handler %d: phase %d", h, phase)
		}
		ready = ready || a != nil && w.m.On(h) == -1
	}
	if !ready && !w.idle() {
		w.fail("all are blocked")
	}
}

// locksHold: P14.9, as far as it shows from outside.
func (w *watch) locksHold(a *asking, phase, i int) {
	w.t.Helper()
	switch phase {
	case api.PhaseBegin:
		a.set = w.setOf(a.request)
	case api.PhaseEnter:
		if s := a.set[i]; w.owner[s] != -1 {
			w.fail("handlers %d and %d are in stripe %d", a.handler, w.owner[s], s)
		}
		w.owner[a.set[i]] = a.handler
	case api.PhaseLeave:
		w.owner[a.set[i]] = -1
	}
	turned := w.turned()
	switch {
	case phase != api.PhaseApply && len(turned) > 0, phase == api.PhaseApply && len(turned) != 1:
		w.fail("%s turns %v", named(phase, i), turned)
	case phase == api.PhaseApply && w.owner[lock.Stripe(turned[0], w.c.Stripes)] != a.handler:
		w.fail("%s turns %v without its lock", named(phase, i), turned)
	}
}

// turned answers the codes whose level this step has turned.
func (w *watch) turned() []string {
	var l []string
	for i, v := range w.state.Levels {
		if v != w.before.Levels[i] {
			l = append(l, v.Code)
		}
	}
	return l
}

// setOf answers a request's set, from the state ahead of its Begin.
func (w *watch) setOf(r api.Request) []int {
	texts := []string{r.Id}
	for _, x := range r.Lines {
		texts = append(texts, x.Code)
	}
	switch r.Kind {
	case api.KindTick, api.KindSave:
		texts = nil
		for s := range w.c.Stripes {
			texts = append(texts, in("", s, w.c.Stripes))
		}
	case api.KindRead:
		texts = texts[1:]
	case api.KindCommit, api.KindRelease, api.KindExtend:
		texts = append(texts, r.Hold)
		for _, h := range w.before.Holds {
			if h.Id == r.Hold {
				for _, x := range h.Lines {
					texts = append(texts, x.Code)
				}
			}
		}
	}
	return lock.Set(texts, w.c.Stripes)
}

// onePoint notes which point has come, if any: at most one a step, and its own. (P14.3, P14.5)
func (w *watch) onePoint(a *asking, phase int, before []api.Point) {
	w.t.Helper()
	now := w.m.Points()
	if phase != api.PhaseAgain && !slices.Contains(w.points, a) {
		a.moment = w.moment
	}
	at := len(before)
	for at > 0 && w.points[at-1].moment > a.moment {
		at--
	}
	switch {
	case len(now) == len(before) && slices.Equal(now, before):
	case len(now) == len(before)+1 && slices.Equal(slices.Delete(slices.Clone(now), at, at+1), before):
		a.lsn = now[at].Lsn
		if now[at] != (api.Point{Handler: a.handler, Lsn: w.m.Number(a.handler)}) {
			w.fail("a point %v in a step of %d, number %d", now[at], a.handler, w.m.Number(a.handler))
		}
		if at < len(before) {
			w.tally["a Read's point among others"]++
		}
		w.points = slices.Insert(w.points, at, a)
	default:
		w.fail("points %v became %v in %s of %d", before, now, named(phase, 0), a.handler)
	}
}

// numbers: P14.6.
func (w *watch) numbers(a *asking, phase int) {
	w.t.Helper()
	v := w.m.View()
	if phase == api.PhaseNumber {
		w.given++
		if w.m.Number(a.handler) != w.given {
			w.fail("number %d, want %d", w.m.Number(a.handler), w.given)
		}
	}
	switch {
	case v.Given != w.given:
		w.fail("given %d, want %d", v.Given, w.given)
	case v.Durable < w.safe || v.Durable > v.Given || v.Noted > v.Given:
		w.fail("view %+v, durable was %d", v, w.safe)
	case v.Weight != stock.Weight(w.state) || v.Reserved < v.Weight || v.Reserved > w.s.Room:
		w.fail("view %+v of a room of %d", v, w.s.Room)
	}
	w.safe = v.Durable
}

// same holds the state against a ledger's. (P14.5)
func (w *watch) same(a *asking, phase int) {
	w.t.Helper()
	switch phase {
	case api.PhaseApply:
		a.mid = true
	case api.PhaseNote:
		a.mid = false
		if reply := w.ledger.Do(a.request); reply.Err != api.OK {
			w.fail("a ledger: %s to %s", show(reply), show(a.request))
		}
	}
	if slices.ContainsFunc(w.asked, func(b *asking) bool { return b != nil && b.mid }) {
		return
	}
	if !sameState(w.state, w.ledger.State()) {
		w.fail("state behind %s: %s, a ledger's: %s", named(phase, 0), show(w.state), show(w.ledger.State()))
	}
}

// told asks what must hold when a reply is told: one point, but of ErrBusy; and P14.7.
func (w *watch) told(a *asking) {
	w.t.Helper()
	a.reply, a.told = w.m.Reply(a.handler)
	place := slices.Index(w.points, a)
	w.count(a)
	if a.reply.Err == api.ErrBusy {
		if place >= 0 || !sameReply(a.reply, api.Reply{Id: a.request.Id, Err: api.ErrBusy}) {
			w.fail("%s with a point: %s", show(a.reply), show(a.request))
		}
		return
	}
	if place < 0 {
		w.fail("%s has no point", show(a.request))
		return
	}
	w.isSafe(a, place)
}

// isSafe: P14.7. What a reply hangs on is asked of a ledger that has done the effects ahead of its point that are durable, and no other: it would answer the same.
func (w *watch) isSafe(a *asking, place int) {
	w.t.Helper()
	safe := w.m.View().Durable
	s := copyState(w.s)
	s.Room = api.MaxRoom // whether there was room hangs on all effects: those replies are looked at by themselves
	l := ledgerOf(w.t, s)
	all := true
	for _, b := range w.points[:place] {
		switch {
		case b.lsn > safe:
			all = false
		case b.lsn > 0:
			l.Do(b.request)
		}
	}
	full := stock.Changes(a.request.Kind) && (a.reply.Err == api.ErrFull || a.reply.Err == api.ErrEnd)
	switch lsn := l.State().Lsn; {
	case a.lsn > safe:
		w.fail("told ahead of its number %d, durable is %d", a.lsn, safe)
	case full || a.request.Kind == api.KindSave && a.reply.Err == api.OK:
		if !all {
			w.fail("%s is told, and hangs on what is not durable", show(a.reply))
		}
	case a.lsn == 0:
		if reply := l.Do(a.request); !sameReply(reply, a.reply) || l.State().Lsn != lsn {
			w.fail("%s is told to %s; by what is durable it would be %s", show(a.reply), show(a.request), show(reply))
		}
	}
}

// ends holds all replies and the state against ledgers. (P14.5, P14.6)
func (w *watch) ends() {
	w.t.Helper()
	l := ledgerOf(w.t, w.s)
	var effects []*asking
	for _, a := range w.points {
		reply := l.Do(a.request)
		if a.told && !sameReply(reply, a.reply) {
			w.fail("%s: %s; a ledger: %s", show(a.request), show(a.reply), show(reply))
		}
		if a.lsn > 0 {
			effects = append(effects, a)
		}
	}
	if w.idle() && !sameState(l.State(), w.m.State()) {
		w.fail("in the end: %s; a ledger: %s", show(w.m.State()), show(l.State()))
	}
	if w.idle() && len(effects) != w.given-w.s.Lsn {
		w.fail("%d effects, %d numbers", len(effects), w.given-w.s.Lsn)
	}
	slices.SortFunc(effects, func(a, b *asking) int { return a.lsn - b.lsn })
	n := ledgerOf(w.t, w.s)
	for _, a := range effects {
		if reply := n.Do(a.request); reply.Err != api.OK || a.told && !sameReply(reply, a.reply) {
			w.fail("number %d, %s: a ledger: %s", a.lsn, show(a.request), show(reply))
		}
	}
	if w.idle() && !sameState(n.State(), l.State()) {
		w.fail("by numbers: %s; by points: %s", show(n.State()), show(l.State()))
	}
	if w.twin != nil && !w.twin.sameDisks(w.d) {
		w.fail("the disk holds something else than its twin")
	}
	w.comesBack()
}

// comesBack asks that what is durable is what a ledger has behind the effects of these numbers: the memory has laid its log and its checkpoints where mend looks for them.
func (w *watch) comesBack() {
	w.t.Helper()
	if w.m.View().Life == api.MaxLife-1 {
		return
	}
	d, _ := disk.New(w.d.Durable(), w.c.Sectors)
	s, epoch, _, e := mend.Recover(d, w.c)
	if e != api.OK || epoch != w.m.View().Life+1 || s.Lsn != w.m.View().Durable {
		w.fail("Recover: %d effects, epoch %d, %d; view %+v", s.Lsn, epoch, e, w.m.View())
		return
	}
	if w.idle() && s.Lsn == w.given && !sameState(s, w.m.State()) {
		w.fail("%s is back, not %s", show(s), show(w.m.State()))
	}
	if !bytes.Equal(w.d.Image()[:len(w.d.Image())-128*(w.c.Sectors-2*w.c.Slot)], w.d.Durable()[:128*2*w.c.Slot]) && w.idle() {
		w.fail("a slot's writes are loose")
	}
}

// count says what kind of thing this request was, so that no run is empty.
func (w *watch) count(a *asking) {
	note := func(is bool, what string) {
		if is {
			w.tally[what]++
		}
	}
	has := func(phase string) bool { return slices.Contains(a.phases, phase) }
	kind := a.request.Kind
	note(true, fmt.Sprint("kind ", kind))
	note(true, fmt.Sprint("error ", a.reply.Err))
	note(a.reply.Err == api.ErrBusy && kind == api.KindSave, "busy Save")
	note(kind == api.KindRead && has("Check"), "Read by locks")
	note(kind == api.KindRead && has("Again0") && len(a.phases) > 5, "Read by counters")
	note(a.lsn == 0 && a.reply.Err == api.OK && stock.Changes(kind), "first reply")
	note(a.lsn == 0 && has("Reserve") && a.reply.Err != api.ErrBusy, "refused at Reserve")
	note(slices.Index(a.phases, "Begin") != len(a.phases)-1-slices.Index(reversed(a.phases), "Begin"), "anew")
	note(has("Number") && !has("Odd0"), "effect without goods")
	note(has("Apply1") && !has("Odd1"), "two codes in one stripe")
	note(has("Odd1"), "goods of several stripes")
	note(!has("Collect") && a.lsn > 0, "flushed by another")
	note(has("Collect") && a.lsn == 0 && kind != api.KindSave, "flushes for others")
	note(kind == api.KindSave && has("Collect"), "Save with records")
	note(kind == api.KindSave && has("Body1"), "Save of several sectors")
	note(kind == api.KindSave && has("Body0") && !has("Collect"), "Save without records")
	for i, p := range a.phases[1:] {
		note(p == "Wait" && a.phases[i] == "Collect", "Collect of no record")
	}
}

func reversed(l []string) []string {
	l = slices.Clone(l)
	slices.Reverse(l)
	return l
}
