package cart_test

import (
	"bytes"
	"iter"
	"slices"
	"strings"
	"testing"

	"larder/api"
	"larder/cart"
	"larder/codec"
	"larder/disk"
	"larder/lock"
	"larder/mend"
	"larder/stock"
	"larder/wal"
)

// twin is a second memory, written from the document in another way: a request is a program that stops in each phase; the rules are a ledger's, which does the effects at their points; what is reserved and promised is added up anew whenever it is asked for.
type twin struct {
	t      *testing.T
	c      api.Config
	d      *disk.Disk
	ledger *stock.Ledger
	levels map[string]api.Level
	log    *wal.Log
	life   int
	noted  int
	last   []int
	given  []int // tickets, by stripe
	left   []int
	seq    []int
	hands  []*hand
	flush  int // the flusher
	points []*mark
	vows   []*vow // records that are not durable
}

// hand is a handler of the twin.
type hand struct {
	next  func() (stop, bool)
	stop  stop
	busy  bool
	lsn   int
	let   *api.Request // what was let in, and is not noted
	reply api.Reply
	told  bool
}

// stop is where a program stands, and what it may be blocked on there.
type stop struct {
	phase, i int
	on       func() int
}

// mark is a point; one that is not sure is a Read's that looks again.
type mark struct {
	point api.Point
	sure  bool
}

// vow is what was promised to a record.
type vow struct {
	lsn, operations int
}

func twinOf(t *testing.T, d *disk.Disk, c api.Config, s api.State, epoch int) *twin {
	t.Helper()
	k := &twin{t: t, c: c, d: d, ledger: ledgerOf(t, s), levels: map[string]api.Level{}, life: epoch, noted: s.Lsn, flush: -1}
	for _, v := range s.Levels {
		k.levels[v.Code] = v
	}
	for range c.Stripes {
		k.last = append(k.last, s.Lsn)
	}
	k.given, k.left, k.seq = make([]int, c.Stripes), make([]int, c.Stripes), make([]int, c.Stripes)
	for range c.Handlers {
		k.hands = append(k.hands, &hand{})
	}
	k.open(s.Lsn)
	return k
}

func (k *twin) open(lsn int) {
	k.log, _ = wal.Open(k.d, 2*k.c.Slot, k.c.Sectors-2*k.c.Slot, k.life, lsn, k.c.Stripes)
}

func (k *twin) start(h int, r api.Request) {
	x := k.hands[h]
	x.busy, x.lsn = true, 0
	x.next, _ = iter.Pull(k.program(h, r))
	x.stop, _ = x.next()
}

func (k *twin) on(h int) int {
	if x := k.hands[h]; x.busy && x.stop.on != nil {
		return x.stop.on()
	}
	return -1
}

func (k *twin) step(h int) bool {
	x := k.hands[h]
	if !x.busy || k.on(h) != -1 {
		return false
	}
	x.stop, x.busy = x.next()
	if !x.busy {
		x.lsn, x.stop = 0, stop{}
	}
	return true
}

func (k *twin) state() api.State {
	s := k.ledger.State()
	for i, v := range s.Levels {
		s.Levels[i] = k.levels[v.Code]
	}
	return s
}

// lettingIn answers a state with all that was let in laid behind it: what it weighs, and how many holds and Dones it has, is reserved.
func (k *twin) lettingIn(s api.State) api.State {
	for _, x := range k.hands {
		if x.let != nil {
			s = with(s, *x.let)
		}
	}
	return s
}

// with answers a state with what a request adds to it.
func with(s api.State, r api.Request) api.State {
	s.Done = append(slices.Clone(s.Done), api.Done{Request: r})
	if r.Kind == api.KindHold {
		s.Holds = append(slices.Clone(s.Holds), api.Held{Id: r.Id, Lines: r.Lines})
	}
	return s
}

func (k *twin) promised() int {
	n := 0
	for _, v := range k.vows {
		n += v.operations
	}
	return n
}

func (k *twin) view(s api.State) api.View {
	return api.View{Life: k.life, Given: k.log.Given(), Noted: k.noted, Durable: k.log.Durable(), Flusher: k.flush, Weight: stock.Weight(s), Reserved: stock.Weight(k.lettingIn(s)), Free: k.log.Free()}
}

func (k *twin) pointed() []api.Point {
	var l []api.Point
	for _, p := range k.points {
		if p.sure {
			l = append(l, p.point)
		}
	}
	return l
}

func (k *twin) point(h int) {
	k.points = append(k.points, &mark{api.Point{Handler: h, Lsn: k.hands[h].lsn}, true})
}

func (k *twin) stripesOf(texts ...string) []int {
	var l []int
	for s := range k.c.Stripes {
		if slices.ContainsFunc(texts, func(text string) bool { return lock.Stripe(text, k.c.Stripes) == s }) {
			l = append(l, s)
		}
	}
	return l
}

func (k *twin) heldLines(name string) ([]api.Line, bool) {
	for _, h := range k.ledger.State().Holds {
		if h.Id == name {
			return h.Lines, true
		}
	}
	return nil, false
}

func (k *twin) greatest(set []int) int {
	n := 0
	for _, s := range set {
		n = max(n, k.last[s])
	}
	return n
}

func lineCodes(lines []api.Line) []string {
	var l []string
	for _, x := range lines {
		l = append(l, x.Code)
	}
	return l
}

// ways on behind Leave.
const (
	toBegin = iota
	toWait
	toReply
)

// program is a request from Begin to its end.
func (k *twin) program(h int, r api.Request) iter.Seq[stop] {
	return func(yield func(stop) bool) {
		at := func(phase, i int) { yield(stop{phase: phase, i: i}) }
		until := func(phase, i int, on func() int) { yield(stop{phase, i, on}) }
		x := k.hands[h]
		var reply api.Reply
		must, way := 0, toBegin
		for way == toBegin {
			at(api.PhaseBegin, 0)
			if e, i := stock.Check(r); e != api.OK {
				reply, way = api.Reply{Id: r.Id, Err: e, Line: i}, toReply
				k.point(h)
				break
			}
			n, _, _ := stock.Normal(r)
			if r.Kind == api.KindRead {
				if y := k.ledger.Would(r); y.Err != api.OK {
					reply, way = y, toReply
					k.point(h)
					break
				}
				var taken bool
				if reply, must, taken = k.byCounters(at, h, n); taken {
					way = toWait
					break
				}
			}
			reply, must, way = k.byLocks(at, until, h, r, n)
		}
		if way == toWait {
			k.wait(at, until, h, must)
		}
		at(api.PhaseReply, 0)
		x.reply, x.told = reply, true
	}
}

// byCounters is a Read without locks; or that it must go by locks.
func (k *twin) byCounters(at func(int, int), h int, n api.Request) (api.Reply, int, bool) {
	codes := lineCodes(n.Lines)
	stripes := k.stripesOf(codes...)
tries:
	for range 3 {
		var seen []int
		for i, s := range stripes {
			at(api.PhaseSeq, i)
			if k.seq[s]%2 == 1 {
				continue tries
			}
			seen = append(seen, k.seq[s])
		}
		reply := api.Reply{Id: n.Id}
		for i, code := range codes {
			at(api.PhaseLook, i)
			reply.Levels = append(reply.Levels, k.levels[code])
		}
		p := &mark{point: api.Point{Handler: h}}
		k.points = append(k.points, p)
		must := 0
		for i, s := range stripes {
			at(api.PhaseAgain, i)
			if k.seq[s] != seen[i] {
				continue tries
			}
			must = max(must, k.last[s])
		}
		p.sure = true
		return reply, must, true
	}
	return api.Reply{}, 0, false
}

// byLocks is what is done under the locks of a set, and what comes of it.
func (k *twin) byLocks(at func(int, int), until func(int, int, func() int), h int, r, n api.Request) (reply api.Reply, must, way int) {
	texts := lineCodes(r.Lines)
	var seen []api.Line
	switch r.Kind {
	case api.KindCommit, api.KindRelease, api.KindExtend:
		seen, _ = k.heldLines(r.Hold)
		texts = append(lineCodes(seen), r.Id, r.Hold)
	case api.KindRestock, api.KindWriteoff, api.KindHold:
		texts = append(texts, r.Id)
	}
	set := k.stripesOf(texts...)
	if r.Kind == api.KindTick || r.Kind == api.KindSave {
		set = nil
		for s := range k.c.Stripes {
			set = append(set, s)
		}
	}
	for i, s := range set {
		at(api.PhaseTicket, i)
		ticket := k.given[s]
		k.given[s]++
		until(api.PhaseEnter, i, func() int {
			if k.left[s] != ticket {
				return s
			}
			return -1
		})
	}
	at(api.PhaseCheck, 0)
	reply, must, way = k.locked(at, until, h, r, n, set, seen)
	for i := len(set) - 1; i >= 0; i-- {
		at(api.PhaseLeave, i)
		k.left[set[i]]++
	}
	return reply, must, way
}

// locked is all from Check on to the first Leave.
func (k *twin) locked(at func(int, int), until func(int, int, func() int), h int, r, n api.Request, set []int, seen []api.Line) (reply api.Reply, must, way int) {
	busy := api.Reply{Id: r.Id, Err: api.ErrBusy}
	switch r.Kind {
	case api.KindSave:
		if k.d.Count()+k.promised()+k.c.Slot+3 > 65536 || k.life+1 == 1<<40 {
			return busy, 0, toReply
		}
		k.point(h)
		k.save(at, until, h)
		return api.Reply{Id: r.Id}, 0, toReply
	case api.KindRead:
		k.point(h)
		return k.ledger.Would(r), k.greatest(set), toWait
	case api.KindCommit, api.KindRelease, api.KindExtend:
		if lines, live := k.heldLines(r.Hold); live && !slices.Equal(lines, seen) {
			return reply, 0, toBegin
		}
	}
	would := k.ledger.Would(r)
	full := would.Err == api.ErrFull || would.Err == api.ErrEnd
	if k.remembers(r.Id) || would.Err != api.OK && !full {
		k.point(h)
		return would, k.greatest(set), toWait
	}
	goods := k.goods(r)
	at(api.PhaseReserve, 0)
	if would = k.ledger.Would(r); would.Err != api.OK {
		k.point(h)
		return would, k.noted, toWait
	}
	if !k.letIn(h, n) {
		return busy, 0, toReply
	}
	k.effect(at, h, n, set, goods)
	at(api.PhaseNote, 0)
	reply = k.ledger.Do(r)
	k.hands[h].let = nil
	for _, s := range set {
		k.last[s] = k.hands[h].lsn
	}
	k.noted = max(k.noted, k.hands[h].lsn)
	k.point(h)
	for i, s := range k.goodsStripes(goods) {
		at(api.PhaseEven, i)
		k.seq[s]++
	}
	return reply, k.hands[h].lsn, toWait
}

func (k *twin) remembers(id string) bool {
	return slices.ContainsFunc(k.ledger.State().Done, func(d api.Done) bool { return d.Request.Id == id })
}

// goods answers how the levels behind an effect differ from those ahead of it.
func (k *twin) goods(r api.Request) []api.Level {
	before := k.ledger.State()
	l, _ := stock.From(before)
	l.Do(r)
	var goods []api.Level
	for i, v := range l.State().Levels {
		u := before.Levels[i]
		if v != u {
			goods = append(goods, api.Level{Code: v.Code, OnHand: v.OnHand - u.OnHand, Held: v.Held - u.Held})
		}
	}
	return goods
}

func (k *twin) goodsStripes(goods []api.Level) []int {
	var codes []string
	for _, v := range goods {
		codes = append(codes, v.Code)
	}
	return k.stripesOf(codes...)
}

// letIn reserves and promises, or says that the store is busy.
func (k *twin) letIn(h int, n api.Request) bool {
	s := k.lettingIn(k.state())
	p, _ := codec.PutRequest(n)
	need := (len(p) + 11 + 110) / 111
	numbers := k.log.Given()
	for _, x := range k.hands {
		if x.busy && x.stop.phase == api.PhaseNumber {
			numbers++
		}
	}
	switch {
	case len(s.Done) >= 4096, n.Kind == api.KindHold && len(s.Holds) >= 1024, stock.Weight(with(s, n)) > s.Room:
		return false
	case numbers >= 1<<62, k.d.Count()+k.promised()+need+1 > 65536, k.log.Reserve(len(p)) != api.OK:
		return false
	}
	k.hands[h].let = &n
	k.vows = append(k.vows, &vow{0, need + 1})
	return true
}

// effect is what lies between Reserve and Note.
func (k *twin) effect(at func(int, int), h int, n api.Request, set []int, goods []api.Level) {
	x, v := k.hands[h], k.vows[len(k.vows)-1]
	at(api.PhaseNumber, 0)
	x.lsn, _ = k.log.Number()
	v.lsn = x.lsn
	at(api.PhaseAppend, 0)
	p, _ := codec.PutRequest(n)
	if e := k.log.Append(set[0], x.lsn, p); e != api.OK {
		k.t.Errorf("the twin's Append: %d", e)
	}
	for i, s := range k.goodsStripes(goods) {
		at(api.PhaseOdd, i)
		k.seq[s]++
	}
	for i, g := range goods {
		at(api.PhaseApply, i)
		v := k.levels[g.Code]
		k.levels[g.Code] = api.Level{Code: g.Code, OnHand: v.OnHand + g.OnHand, Held: v.Held + g.Held}
	}
}

// wait is all from the first Wait on to the last.
func (k *twin) wait(at func(int, int), until func(int, int, func() int), h, must int) {
	for {
		until(api.PhaseWait, 0, func() int {
			if k.log.Durable() < must && k.flush >= 0 && k.flush != h {
				return 64
			}
			return -1
		})
		if k.log.Durable() >= must {
			return
		}
		k.flush = h
		k.flushAll(at)
		k.flush = -1
	}
}

// flushAll is a flush from Collect on.
func (k *twin) flushAll(at func(int, int)) {
	at(api.PhaseCollect, 0)
	if n, _ := k.log.Collect(); n == 0 {
		return
	}
	for last := false; !last; {
		at(api.PhaseWrite, 0)
		last, _ = k.log.Write()
	}
	at(api.PhaseBarrier, 0)
	k.log.Barrier()
	k.vows = slices.DeleteFunc(k.vows, func(v *vow) bool { return v.lsn > 0 && v.lsn <= k.log.Durable() })
}

// save is what a Save does from Role on to Switch.
func (k *twin) save(at func(int, int), until func(int, int, func() int), h int) {
	until(api.PhaseRole, 0, func() int {
		if k.flush >= 0 && k.flush != h {
			return 65
		}
		return -1
	})
	k.flush = h
	if k.log.Given() > k.log.Durable() {
		k.flushAll(at)
	}
	body, head, e := mend.Layout(k.c, k.life+1, k.state())
	if e != api.OK {
		k.t.Errorf("the twin's Layout: %d", e)
	}
	for i, w := range body {
		at(api.PhaseBody, i)
		k.d.Write(w.Sector, w.Bytes)
	}
	at(api.PhaseFence, 0)
	k.d.Flush()
	at(api.PhaseHead, 0)
	k.d.Write(head.Sector, head.Bytes)
	at(api.PhaseSwitch, 0)
	k.d.Flush()
	k.life++
	k.open(k.log.Given())
	k.flush = -1
}

// differs says in what a memory differs from its twin, which has a disk of its own.
func (k *twin) differs(m *cart.Shared, d *disk.Disk) string {
	var l []string
	note := func(differ bool, what string, got, want any) {
		if differ { // only then in words
			l = append(l, what+": "+show(got)+", want "+show(want))
		}
	}
	for h, x := range k.hands {
		note(standing(m, h) != named(x.stop.phase, x.stop.i), "phase", standing(m, h), named(x.stop.phase, x.stop.i))
		note(m.On(h) != k.on(h), "on", m.On(h), k.on(h))
		note(m.Number(h) != x.lsn, "number", m.Number(h), x.lsn)
		reply, told := m.Reply(h)
		note(!sameReply(reply, x.reply) || told != x.told, "reply", reply, x.reply)
	}
	s := k.state()
	note(m.View() != k.view(s), "view", m.View(), k.view(s))
	for s, n := range k.last {
		note(m.Last(s) != n, "last", m.Last(s), n)
	}
	note(!slices.Equal(m.Points(), k.pointed()), "points", m.Points(), k.pointed())
	note(!sameState(m.State(), s), "state", m.State(), s)
	note(d.Count() != k.d.Count(), "operations", d.Count(), k.d.Count())
	note(!slices.Equal(d.Pending(), k.d.Pending()), "loose writes", d.Pending(), k.d.Pending())
	return strings.Join(l, "; ")
}

// sameDisks says whether the memory's disk holds what the twin's does.
func (k *twin) sameDisks(d *disk.Disk) bool {
	return bytes.Equal(d.Image(), k.d.Image()) && bytes.Equal(d.Durable(), k.d.Durable())
}
