package till_test

import (
	"bytes"
	"fmt"
	"math"
	"slices"
	"strconv"
	"testing"

	"larder/api"
	"larder/disk"
	"larder/lin"
	"larder/lock"
	"larder/mend"
	"larder/stock"
	"larder/till"
)

const (
	greatest = math.MaxInt
	least    = math.MinInt
)

func want[T comparable](t *testing.T, name string, got, want T) {
	t.Helper()
	if got != want {
		t.Errorf("%s: %v, want %v", name, got, want)
	}
}

// show answers a thing in words, as many of them as one can read.
func show(v any) string { return fmt.Sprintf("%.1500s", fmt.Sprintf("%+v", v)) }

// plain is the configuration of the document's examples.
func plain() api.Config {
	return api.Config{Codes: []string{"a", "b"}, Stripes: 4, Handlers: 2, Sectors: 40, Slot: 8}
}

// wide has four handlers, and stripes enough that goods and requests keep out of each other's way.
func wide() api.Config {
	return api.Config{Codes: []string{"a", "b", "c", "d"}, Stripes: 64, Handlers: 4, Sectors: 60, Slot: 10}
}

// brief has a log of one sector: behind one effect all others are told ErrBusy until a checkpoint is made.
func brief() api.Config {
	return api.Config{Codes: []string{"a", "b"}, Stripes: 4, Handlers: 2, Sectors: 17, Slot: 8}
}

// Requests, short.

func line(code string, qty int) api.Line { return api.Line{Code: code, Qty: qty} }

func restock(id string, l ...api.Line) api.Request {
	return api.Request{Id: id, Kind: api.KindRestock, Lines: l}
}

func writeoff(id string, l ...api.Line) api.Request {
	return api.Request{Id: id, Kind: api.KindWriteoff, Lines: l}
}

func hold(id string, ttl int, l ...api.Line) api.Request {
	return api.Request{Id: id, Kind: api.KindHold, Lines: l, Ttl: ttl}
}

func commit(id, name string) api.Request {
	return api.Request{Id: id, Kind: api.KindCommit, Hold: name}
}

func release(id, name string) api.Request {
	return api.Request{Id: id, Kind: api.KindRelease, Hold: name}
}

func extend(id, name string, ttl int) api.Request {
	return api.Request{Id: id, Kind: api.KindExtend, Hold: name, Ttl: ttl}
}

func read(id string, codes ...string) api.Request {
	r := api.Request{Id: id, Kind: api.KindRead}
	for _, code := range codes {
		r.Lines = append(r.Lines, line(code, 0))
	}
	return r
}

func tick(id string, now int) api.Request {
	return api.Request{Id: id, Kind: api.KindTick, Now: now}
}

func save(id string) api.Request { return api.Request{Id: id, Kind: api.KindSave} }

// refused is a request that ends in two steps, whatever the store has.
func refused(id string) api.Request { return hold(id, 0, line("a", 1)) }

// apart answers an id that begins so and whose stripe none of the codes has.
func apart(c api.Config, prefix string) string {
	taken := lock.Set(c.Codes, c.Stripes)
	for i := 0; ; i++ {
		if text := prefix + strconv.Itoa(i); !slices.Contains(taken, lock.Stripe(text, c.Stripes)) {
			return text
		}
	}
}

// Acts, short.

func askAct(h int, r api.Request) api.Act { return api.Act{Kind: api.ActAsk, H: h, Request: r} }

func pickAct(h, n int) api.Act { return api.Act{Kind: api.ActPick, H: h, N: n} }

func runAct(n int) api.Act { return api.Act{Kind: api.ActRun, N: n} }

func crashAct(c api.Crash) api.Act { return api.Act{Kind: api.ActCrash, Crash: c} }

// Power failures, short.

func nothing() api.Crash { return api.Crash{Torn: -1} }

func kept(places ...int) api.Crash { return api.Crash{Keep: places, Torn: -1} }

func torn(place, bytes int, keep ...int) api.Crash {
	return api.Crash{Keep: keep, Torn: place, Bytes: bytes}
}

// States.

func empty(c api.Config) api.State {
	s := api.State{Room: (c.Slot - 1) * 128}
	for _, code := range c.Codes {
		s.Levels = append(s.Levels, api.Level{Code: code})
	}
	return s
}

func ledgerOf(t *testing.T, s api.State) *stock.Ledger {
	t.Helper()
	l, e := stock.From(s)
	if e != api.OK {
		t.Fatalf("not sound: %s", show(s))
	}
	return l
}

// behind answers the state of a ledger that has done all of a list.
func behind(t *testing.T, s api.State, list ...api.Request) api.State {
	t.Helper()
	l := ledgerOf(t, s)
	for _, r := range list {
		if reply := l.Do(r); reply.Err != api.OK {
			t.Fatalf("Do(%s): %s", show(r), show(reply))
		}
	}
	return l.State()
}

// Things are held against each other, nil and empty lists alike.

func sameState(s, u api.State) bool {
	return s.Room == u.Room && s.Lsn == u.Lsn && s.Now == u.Now && slices.Equal(s.Levels, u.Levels) &&
		slices.EqualFunc(s.Holds, u.Holds, sameHold) && slices.EqualFunc(s.Done, u.Done, sameDone)
}

func sameHold(h, k api.Held) bool {
	return h.Id == k.Id && h.Deadline == k.Deadline && slices.Equal(h.Lines, k.Lines)
}

func sameDone(d, e api.Done) bool { return d.At == e.At && sameRequest(d.Request, e.Request) }

func sameRequest(r, q api.Request) bool {
	return r.Id == q.Id && r.Kind == q.Kind && slices.Equal(r.Lines, q.Lines) && r.Hold == q.Hold && r.Ttl == q.Ttl && r.Now == q.Now
}

func sameReply(x, y api.Reply) bool {
	return x.Id == y.Id && x.Err == y.Err && x.Line == y.Line && slices.Equal(x.Levels, y.Levels) && x.Now == y.Now
}

func sameOp(o, p api.Op) bool {
	return sameRequest(o.Request, p.Request) && sameReply(o.Reply, p.Reply) && o.Begin == p.Begin && o.End == p.End && o.Open == p.Open
}

func sameStory(s, u api.Story) bool {
	return slices.EqualFunc(s.Ops, u.Ops, sameOp) && slices.Equal(s.Order, u.Order) && sameState(s.State, u.State) &&
		s.Lives == u.Lives && s.Moment == u.Moment && s.Busy == u.Busy
}

func copyRequest(r api.Request) api.Request {
	r.Lines = append([]api.Line(nil), r.Lines...)
	return r
}

// Images.

// imageOf answers an image that has checkpoint epoch of a state, and zeros.
func imageOf(t *testing.T, c api.Config, epoch int, s api.State) []byte {
	t.Helper()
	body, head, e := mend.Layout(c, epoch, s)
	if e != api.OK {
		t.Fatalf("Layout(%s, %d, %s): %d", show(c), epoch, show(s), e)
	}
	image := make([]byte, c.Sectors*128)
	for _, w := range append(body, head) {
		copy(image[w.Sector*128:], w.Bytes)
	}
	return image
}

func formatted(t *testing.T, c api.Config) []byte {
	t.Helper()
	image, e := mend.Format(c)
	if e != api.OK {
		t.Fatalf("Format(%s): %d", show(c), e)
	}
	return image
}

func diskOf(t *testing.T, image []byte, c api.Config) *disk.Disk {
	t.Helper()
	d, e := disk.New(image, c.Sectors)
	if e != api.OK {
		t.Fatalf("disk.New: %d", e)
	}
	return d
}

// Tills.

func opened(t *testing.T, image []byte, c api.Config) *till.Till {
	t.Helper()
	u, e := till.Open(image, c)
	if u == nil || e != api.OK {
		t.Fatalf("Open: %v, %d", u, e)
	}
	return u
}

// fresh answers the till of a new store.
func fresh(t *testing.T, c api.Config) *till.Till {
	t.Helper()
	return opened(t, formatted(t, c), c)
}

func ask(t *testing.T, u *till.Till, h int, r api.Request) {
	t.Helper()
	if e := u.Ask(h, r); e != api.OK {
		t.Fatalf("Ask(%d, %s): %d", h, show(r), e)
	}
}

func crash(t *testing.T, u *till.Till, c api.Crash) {
	t.Helper()
	if e := u.Crash(c); e != api.OK {
		t.Fatalf("Crash(%s): %d", show(c), e)
	}
}

// to picks a handler until it stands in a phase.
func to(t *testing.T, u *till.Till, h, phase int) {
	t.Helper()
	for range 5000 {
		at, _ := u.Phase(h)
		if at == phase {
			return
		}
		if !u.Pick(h) {
			t.Fatalf("handler %d can't go on from phase %d", h, at)
		}
	}
	t.Fatalf("phase %d is never reached", phase)
}

// done asks a request and lets it end, and answers its reply.
func done(t *testing.T, u *till.Till, h int, r api.Request) api.Reply {
	t.Helper()
	ask(t, u, h, r)
	to(t, u, h, api.PhaseIdle)
	x, ok := u.Reply(h)
	if !ok {
		t.Fatalf("no reply to %s", show(r))
	}
	return x
}

// isIdle says whether no handler is at work.
func isIdle(u *till.Till, c api.Config) bool {
	for h := range c.Handlers {
		if phase, _ := u.Phase(h); phase != api.PhaseIdle {
			return false
		}
	}
	return true
}

func wantState(t *testing.T, u *till.Till, s api.State) {
	t.Helper()
	if got := u.State(); !sameState(got, s) {
		t.Errorf("state: %s, want %s", show(got), show(s))
	}
}

func wantOrder(t *testing.T, u *till.Till, order ...int) {
	t.Helper()
	if got := u.Story().Order; !slices.Equal(got, order) {
		t.Errorf("Order: %v, want %v", got, order)
	}
}

func wantMoment(t *testing.T, u *till.Till, what string, moment int) {
	t.Helper()
	if got := u.Story().Moment; got != moment {
		t.Errorf("moment behind %s: %d, want %d", what, got, moment)
	}
}

// looks is all that can be seen of a till.
type looks struct {
	story  api.Story
	state  api.State
	start  api.State
	view   api.View
	image  []byte
	ready  []int
	phases []api.Pair
	reply  []api.Reply
	told   []bool
}

// looksOf looks at a till, with a handler more on either side than it has.
func looksOf(u *till.Till, c api.Config) looks {
	l := looks{story: u.Story(), state: u.State(), start: u.Start(), view: u.View(), image: u.Image(), ready: u.Ready()}
	for h := -1; h <= c.Handlers; h++ {
		phase, i := u.Phase(h)
		reply, told := u.Reply(h)
		l.phases = append(l.phases, api.Pair{A: phase, B: i})
		l.reply = append(l.reply, reply)
		l.told = append(l.told, told)
	}
	return l
}

// differs says in which thing two looks differ; "" if in none.
func (l looks) differs(m looks) string {
	switch {
	case !sameStory(l.story, m.story):
		return "stories: " + storyWords(l.story) + "\nand " + storyWords(m.story)
	case !sameState(l.state, m.state):
		return "states: " + show(l.state) + "\nand " + show(m.state)
	case !sameState(l.start, m.start):
		return "starts: " + show(l.start) + "\nand " + show(m.start)
	case l.view != m.view:
		return "views: " + show(l.view) + "\nand " + show(m.view)
	case !bytes.Equal(l.image, m.image):
		return "images"
	case !slices.Equal(l.ready, m.ready):
		return "ready: " + show(l.ready) + "\nand " + show(m.ready)
	case !slices.Equal(l.phases, m.phases):
		return "phases: " + show(l.phases) + "\nand " + show(m.phases)
	case !slices.EqualFunc(l.reply, m.reply, sameReply) || !slices.Equal(l.told, m.told):
		return "replies: " + show(l.reply) + show(l.told) + "\nand " + show(m.reply) + show(m.told)
	}
	return ""
}

// storyWords answers a story in words, its end where it is long.
func storyWords(s api.Story) string {
	text := fmt.Sprintf("lives %d, moment %d, busy %d, %d ops, order %v, state %+v", s.Lives, s.Moment, s.Busy, len(s.Ops), s.Order, s.State)
	for i, o := range slices.Backward(s.Ops) {
		text += fmt.Sprintf("\n\t%d: %+v", i, o)
	}
	return fmt.Sprintf("%.4000s", text)
}

// wantSame asks that a till looks as it did.
func wantSame(t *testing.T, what string, u *till.Till, c api.Config, was looks) {
	t.Helper()
	if l := looksOf(u, c).differs(was); l != "" {
		t.Errorf("%s: it is not as it was: %s", what, l)
	}
}

// fault says what of a story is not as P15.7 asks (and P15.8, if nobody is at work); "" if nothing.
func fault(s api.Story, start api.State, idle bool) string {
	l, e := stock.From(start)
	if e != api.OK {
		return "the till began with a state that is not sound: " + show(start)
	}
	stands := make([]bool, len(s.Ops))
	latest := 0 // the last Begin so far: nothing that ended ahead of it may come behind it
	for _, i := range s.Order {
		if i < 0 || i >= len(s.Ops) || stands[i] {
			return fmt.Sprintf("no order: %v of %d ops", s.Order, len(s.Ops))
		}
		stands[i] = true
		o := s.Ops[i]
		if o.End < latest {
			return fmt.Sprintf("op %d ended at %d, and stands behind one that was asked at %d", i, o.End, latest)
		}
		latest = max(latest, o.Begin)
		if reply := l.Do(o.Request); !o.Open && !sameReply(reply, o.Reply) {
			return fmt.Sprintf("op %d: %+v, one ledger: %+v", i, o, reply)
		}
	}
	for i, o := range s.Ops {
		switch {
		case !o.Open && !stands[i]:
			return fmt.Sprintf("op %d is answered, and does not stand in %v", i, s.Order)
		case o.Open && !sameReply(o.Reply, api.Reply{}):
			return fmt.Sprintf("op %d is open, with a reply: %+v", i, o)
		case o.Begin < 1 || o.End <= o.Begin || o.End > s.Moment && o.End != api.MaxMoment || !o.Open && o.End == api.MaxMoment:
			return fmt.Sprintf("op %d: from %d to %d, of %d moments", i, o.Begin, o.End, s.Moment)
		case i > 0 && o.Begin <= s.Ops[i-1].Begin:
			return fmt.Sprintf("op %d was asked at %d, the one ahead of it at %d", i, o.Begin, s.Ops[i-1].Begin)
		}
	}
	if idle && !sameState(l.State(), s.State) {
		return "one ledger: " + show(l.State()) + "\nthe till: " + show(s.State)
	}
	return linFault(s, start, idle)
}

// linFault says the same by package lin.
func linFault(s api.Story, start api.State, idle bool) string {
	if good, e := lin.Holds(s.Ops, s.Order, start); !good || e != api.OK {
		return fmt.Sprintf("lin.Holds: %v, %d", good, e)
	}
	if !idle {
		return ""
	}
	if last, e := lin.Final(s.Ops, s.Order, start); e != api.OK || !sameState(last, s.State) {
		return fmt.Sprintf("lin.Final: %d, %s\nthe till: %s", e, show(last), show(s.State))
	}
	return ""
}

// wantHolds asks for P15.7 and P15.8 of a till.
func wantHolds(t *testing.T, u *till.Till, c api.Config) {
	t.Helper()
	s := u.Story()
	if l := fault(s, u.Start(), isIdle(u, c)); l != "" {
		t.Errorf("%s\n%s", l, storyWords(s))
	}
}
