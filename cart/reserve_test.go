package cart_test

import (
	"slices"
	"strings"
	"testing"

	"larder/api"
	"larder/cart"
	"larder/lock"
	"larder/stock"
)

// quiet is a store of 16 stripes and four handlers; code number i lies in stripe i, so that requests may be written that have no stripe in common.
func quiet(slot, sectors int) api.Config {
	c := api.Config{Stripes: 16, Handlers: 4, Sectors: sectors, Slot: slot}
	for i := range 4 {
		c.Codes = append(c.Codes, in(string(rune('a'+i)), i, 16))
	}
	return c
}

// sized answers an id of n bytes, 3 at least, that begins so and lies in a stripe of a quiet store.
func sized(first string, n, stripe int) string {
	for k := 0; ; k++ {
		text := first + strings.Repeat("x", n-len(first)-2) + string([]byte{byte('!' + k/90), byte('!' + k%90)})
		if lock.Stripe(text, 16) == stripe {
			return text
		}
	}
}

// weighing answers a restock in stripe i alone that adds so many bytes to a state.
func weighing(c api.Config, first string, i, weight int) api.Request {
	return restock(sized(first, weight-62-len(c.Codes[i]), i), line(c.Codes[i], 1))
}

// holdWeighing is the same as a hold; the weight is odd.
func holdWeighing(c api.Config, first string, i, weight int) api.Request {
	return hold(sized(first, (weight-87-2*len(c.Codes[i]))/2, i), 500, line(c.Codes[i], 1))
}

// leaving answers a state in which there are some of each code, and room for so many bytes more.
func leaving(t *testing.T, c api.Config, room int) api.State {
	t.Helper()
	s := empty(c)
	for i := range s.Levels {
		s.Levels[i].OnHand = 50
	}
	rest := s.Room - stock.Weight(s) - room
	for n := (rest + 119) / 120; n > 0; n-- {
		s = behind(t, s, weighing(c, string(rune('A'+n)), 3, rest/n))
		rest -= rest / n
	}
	if got := s.Room - stock.Weight(s); got != room {
		t.Fatalf("room for %d bytes, not %d", got, room)
	}
	return s
}

// unnoted are the phases in which an effect in one stripe is let in and not noted; noted those in which it is noted and not durable.
var (
	unnoted = []string{"Number", "Append", "Odd0", "Apply0", "Note"}
	noted   = []string{"Even0", "Leave0", "Wait", "Collect", "Write", "Barrier"}
)

// alongside answers a memory in which handler 0 has a request that stands in a phase.
func alongside(t *testing.T, c api.Config, s api.State, operations int, r api.Request, at string) *cart.Shared {
	t.Helper()
	m, _ := memoryAt(t, c, s, 1, operations)
	start(t, m, 0, r)
	to(t, m, 0, at)
	return m
}

// letIn steps a request at a handler until it is let in, or to its end, and answers its error. Where that is ErrBusy nothing has changed and there is no point.
func letIn(t *testing.T, m *cart.Shared, h int, r api.Request) api.Errno {
	t.Helper()
	points, view, state := len(m.Points()), m.View(), m.State()
	start(t, m, h, r)
	for n := 0; standing(m, h) != "Idle"; n++ {
		if standing(m, h) == "Number" {
			return api.OK
		}
		if n > 200 {
			t.Fatalf("%s does not end", show(r))
		}
		if !m.Step(h) {
			step(t, m, 0) // it waits for the other's flush
		}
	}
	x, _ := m.Reply(h)
	if x.Err != api.ErrBusy {
		want(t, "points", len(m.Points()) > points, true)
		return x.Err
	}
	want(t, "points behind ErrBusy", len(m.Points()), points)
	want(t, "View behind ErrBusy", m.View(), view)
	if !sameState(m.State(), state) || !sameReply(x, api.Reply{Id: r.Id, Err: api.ErrBusy}) {
		t.Errorf("%s, and %s became %s", show(x), show(state), show(m.State()))
	}
	return x.Err
}

// TestP14_4_FullByWeight: rule 5's ErrFull: just so much room, and one byte too little.
func TestP14_4_FullByWeight(t *testing.T) {
	c := quiet(7, 60)
	m, _ := memory(t, c, leaving(t, c, 100), 1)
	want(t, "just so", ask(t, m, 1, weighing(c, "n", 1, 100)).Err, api.OK)
	want(t, "Weight", m.View().Weight, 768)
	want(t, "Reserved", m.View().Reserved, 768)
	m, _ = memory(t, c, leaving(t, c, 100), 1)
	r := weighing(c, "n", 1, 101)
	wantRun(t, m, 1, r, "Begin Ticket0 Enter0 Check Reserve Leave0 Wait Reply", api.Reply{Id: r.Id, Err: api.ErrFull})
	wantPoints(t, m, api.Point{Handler: 1})
	for room, e := range map[int]api.Errno{141: api.OK, 140: api.ErrFull} {
		m, _ = memory(t, c, leaving(t, c, room), 1)
		want(t, "a hold", letIn(t, m, 1, holdWeighing(c, "n", 1, 141)), e)
	}
	// What the effect takes away is not counted off.
	s := holding(leaving(t, c, 130), "hhh", 9, line(c.Codes[0], 1))
	room := 130 - 28 - len(c.Codes[0]) - 51 // behind the hold and the Commit's Done without its texts
	m, _ = memory(t, c, s, 1)
	want(t, "a Commit that just fits", letIn(t, m, 1, commit(sized("c", room-3, 1), "hhh")), api.OK)
	m, _ = memory(t, c, s, 1)
	want(t, "a Commit that does not", letIn(t, m, 1, commit(sized("c", room-2, 1), "hhh")), api.ErrFull)
}

// TestP14_4_BusyByWeight: what is let in has its room ahead of its Note, and ErrBusy says that it may yet come otherwise; behind the Note it is ErrFull.
func TestP14_4_BusyByWeight(t *testing.T) {
	c := quiet(7, 60)
	s := leaving(t, c, 200)
	first := weighing(c, "f", 0, 110)
	for _, at := range unnoted {
		m := alongside(t, c, s, 0, first, at)
		want(t, "Weight", m.View().Weight, 768-200)
		want(t, "Reserved", m.View().Reserved, 768-90)
		want(t, "one too much beside "+at, letIn(t, m, 1, weighing(c, "n", 1, 91)), api.ErrBusy)
		want(t, "just so beside "+at, letIn(t, m, 1, weighing(c, "n", 1, 90)), api.OK)
		want(t, "Reserved", m.View().Reserved, 768)
		want(t, "Weight", m.View().Weight, 768-200)
		want(t, "anything more", letIn(t, m, 2, weighing(c, "o", 2, 68)), api.ErrBusy)
	}
	for _, at := range noted {
		m := alongside(t, c, s, 0, first, at)
		want(t, "Weight", m.View().Weight, 768-90)
		want(t, "Reserved", m.View().Reserved, 768-90)
		want(t, "one too much beside "+at, letIn(t, m, 1, weighing(c, "n", 1, 91)), api.ErrFull)
		want(t, "just so beside "+at, letIn(t, m, 1, weighing(c, "n", 1, 90)), api.OK)
	}
	// A hold is counted with its Done.
	m := alongside(t, c, leaving(t, c, 141+100), 0, holdWeighing(c, "f", 0, 141), "Number")
	want(t, "Reserved", m.View().Reserved, 768-100)
	want(t, "one too much beside a hold", letIn(t, m, 1, weighing(c, "n", 1, 101)), api.ErrBusy)
	want(t, "just so beside a hold", letIn(t, m, 1, weighing(c, "n", 1, 100)), api.OK)
}

// TestP14_4_GivenBack: what an effect takes away is reserved no more from its Note on.
func TestP14_4_GivenBack(t *testing.T) {
	c := quiet(7, 60)
	name := sized("h", 10, 0)
	s := holding(leaving(t, c, 500), name, 9, line(c.Codes[0], 2))
	weight := stock.Weight(s)
	held := 14 + 10 + 11 + len(c.Codes[0])
	for _, r := range []api.Request{commit(sized("c", 12, 0), name), release(sized("c", 12, 0), name)} {
		more := 51 + 12 + 10
		m := alongside(t, c, s, 0, r, "Note")
		want(t, "Weight ahead of Note", m.View().Weight, weight)
		want(t, "Reserved ahead of Note", m.View().Reserved, weight+more)
		step(t, m, 0)
		want(t, "Weight behind Note", m.View().Weight, weight+more-held)
		want(t, "Reserved behind Note", m.View().Reserved, weight+more-held)
	}
	// A Tick lets holds lapse and requests be forgotten.
	m := alongside(t, c, s, 0, tick("ttt", api.KeptFor), "Note")
	want(t, "Reserved ahead of Note", m.View().Reserved, weight+54)
	step(t, m, 0)
	left := 64 + 54
	for _, v := range s.Levels {
		left += 21 + len(v.Code)
	}
	want(t, "Weight behind Note", m.View().Weight, left)
	want(t, "Reserved behind Note", m.View().Reserved, left)
	// So do an Extend's and a Writeoff's Notes take nothing.
	m = alongside(t, c, s, 0, extend(sized("e", 12, 0), name, 5), "Note")
	step(t, m, 0)
	want(t, "Reserved behind an Extend", m.View().Reserved, weight+73)
	want(t, "Weight behind an Extend", m.View().Weight, weight+73)
}

// manyHolds answers a state of so many holds.
func manyHolds(c api.Config, n int) api.State {
	s := empty(c)
	for _, name := range names(n, 3) {
		s.Holds = append(s.Holds, api.Held{Id: name, Lines: []api.Line{line(c.Codes[3], 1)}, Deadline: 1000})
	}
	for i := range s.Levels {
		s.Levels[i].OnHand = 2000
	}
	s.Levels[3].Held = n
	return s
}

// TestP14_4_Holds: MaxHolds live holds: ErrFull; as many with those that are let in: ErrBusy; and only of a Hold.
func TestP14_4_Holds(t *testing.T) {
	c := quiet(1024, 2200)
	first, next := hold(sized("f", 5, 0), 9, line(c.Codes[0], 1)), hold(sized("n", 5, 1), 9, line(c.Codes[1], 1))
	m, _ := memory(t, c, manyHolds(c, 1024), 1)
	want(t, "Hold 1025", letIn(t, m, 1, next), api.ErrFull)
	want(t, "a Restock beside 1024 holds", letIn(t, m, 1, restock("rrr", line(c.Codes[1], 1))), api.OK)
	m, _ = memory(t, c, manyHolds(c, 1023), 1)
	want(t, "Hold 1024", ask(t, m, 1, next).Err, api.OK)
	want(t, "Hold 1025", letIn(t, m, 1, hold("hhh", 9, line(c.Codes[1], 1))), api.ErrFull)

	more := hold(sized("o", 5, 2), 9, line(c.Codes[2], 1))
	m = alongside(t, c, manyHolds(c, 1022), 0, first, "Number")
	want(t, "Hold 1024 beside one that is let in", letIn(t, m, 1, next), api.OK)
	want(t, "Hold 1025 beside two that are let in", letIn(t, m, 2, more), api.ErrBusy)
	for _, at := range unnoted {
		m = alongside(t, c, manyHolds(c, 1023), 0, first, at)
		want(t, "Hold 1025 beside "+at, letIn(t, m, 1, next), api.ErrBusy)
		want(t, "a Restock beside "+at, letIn(t, m, 1, weighing(c, "r", 1, 100)), api.OK)
	}
	for _, at := range noted {
		m = alongside(t, c, manyHolds(c, 1023), 0, first, at)
		want(t, "Hold 1025 beside "+at, letIn(t, m, 1, next), api.ErrFull)
	}
	// One that takes a hold away lets its place go at its Note.
	taken := names(1, 3)[0]
	for _, r := range []api.Request{commit(sized("c", 5, 3), taken), release(sized("c", 5, 3), taken)} {
		m = alongside(t, c, manyHolds(c, 1024), 0, r, "Note")
		want(t, "Hold 1025 beside Note", letIn(t, m, 1, next), api.ErrFull)
		step(t, m, 0)
		want(t, "Hold 1024 behind Note", letIn(t, m, 1, next), api.OK)
		want(t, "Hold 1025 behind Note", letIn(t, m, 2, more), api.ErrBusy)
	}
	// So does one that lets them lapse.
	m, _ = memory(t, c, manyHolds(c, 1024), 1)
	ask(t, m, 0, tick("ttt", 1000))
	want(t, "holds behind a Tick", len(m.State().Holds), 0)
	want(t, "a Hold behind a Tick", letIn(t, m, 1, next), api.OK)
}

// TestP14_4_Numbers: MaxLsn: ErrEnd when the last number is noted; ErrBusy when it is given, or when those let in will have it.
func TestP14_4_Numbers(t *testing.T) {
	c := quiet(20, 100)
	first, next := weighing(c, "f", 0, 100), weighing(c, "n", 1, 100)
	at := func(below int) api.State {
		s := leaving(t, c, 900)
		s.Lsn = api.MaxLsn - below
		return s
	}
	m, _ := memory(t, c, at(0), 1)
	want(t, "behind the last number", letIn(t, m, 1, next), api.ErrEnd)
	for _, phase := range unnoted {
		m = alongside(t, c, at(1), 0, first, phase)
		want(t, "beside "+phase, letIn(t, m, 1, next), api.ErrBusy)
		m = alongside(t, c, at(2), 0, first, phase)
		want(t, "beside "+phase+", one number is left", letIn(t, m, 1, next), api.OK)
	}
	for _, phase := range noted {
		m = alongside(t, c, at(1), 0, first, phase)
		want(t, "beside "+phase, letIn(t, m, 1, next), api.ErrEnd)
	}
	// Two that are let in have the last two.
	m = alongside(t, c, at(2), 0, first, "Number")
	start(t, m, 2, weighing(c, "o", 2, 100))
	to(t, m, 2, "Number")
	want(t, "beside two in Number", letIn(t, m, 1, next), api.ErrBusy)
	step(t, m, 2)
	want(t, "beside one in Number, one in Append", letIn(t, m, 1, next), api.ErrBusy)
	to(t, m, 0, "Wait")
	run(t, m, 2)
	run(t, m, 0)
	want(t, "Given", m.View().Given, api.MaxLsn)
	want(t, "behind both", letIn(t, m, 1, next), api.ErrEnd)
	// ErrFull comes ahead of ErrEnd.
	s := leaving(t, c, 99)
	s.Lsn = api.MaxLsn
	m, _ = memory(t, c, s, 1)
	want(t, "full, and at the end", letIn(t, m, 1, next), api.ErrFull)
}

// TestP14_4_Operations: a record is let in only with operations of the disk for its sectors and its flush, beside those that were promised.
func TestP14_4_Operations(t *testing.T) {
	c := quiet(20, 100)
	s := leaving(t, c, 1200)
	first, next := weighing(c, "f", 0, 100), weighing(c, "n", 1, 100)
	for count, e := range map[int]api.Errno{api.MaxOps: api.ErrBusy, api.MaxOps - 1: api.ErrBusy, api.MaxOps - 2: api.OK, api.MaxOps - 3: api.OK} {
		m, _ := memoryAt(t, c, s, 1, count)
		want(t, "one sector and a flush", letIn(t, m, 1, next), e)
	}
	for count, e := range map[int]api.Errno{api.MaxOps - 2: api.ErrBusy, api.MaxOps - 3: api.OK} {
		m, d := memoryAt(t, c, s, 1, count)
		want(t, "two sectors and a flush", ask(t, m, 1, long(c)).Err, e)
		if e == api.OK {
			want(t, "operations", d.Count(), api.MaxOps)
		}
	}
	// The first has two promised; behind its Write it has used one of them, and the promise stands until its Barrier.
	for _, at := range slices.Concat(unnoted, noted) {
		m := alongside(t, c, s, api.MaxOps-3, first, at)
		want(t, "one operation is left beside "+at, letIn(t, m, 1, next), api.ErrBusy)
		m = alongside(t, c, s, api.MaxOps-4, first, at)
		want(t, "two operations are left beside "+at, letIn(t, m, 1, next), map[bool]api.Errno{false: api.OK, true: api.ErrBusy}[at == "Barrier"])
	}
}

// long answers a request whose record has two sectors.
func long(c api.Config) api.Request {
	r := restock(sized("l", 64, 1))
	for _, code := range c.Codes {
		r.Lines = append(r.Lines, line(code, api.MaxStock-99))
	}
	return r
}

// TestP14_4_PromisedNoMore: behind the Barrier of a flush what was promised to its records is promised no more, used or not; to others it still is.
func TestP14_4_PromisedNoMore(t *testing.T) {
	c := quiet(20, 100)
	s := leaving(t, c, 1200)
	r := func(i int) api.Request { return weighing(c, string(rune('f'+i)), i, 100) }
	m, d := memoryAt(t, c, s, 1, api.MaxOps-6)
	for _, h := range []int{0, 2, 3} {
		start(t, m, h, r(h))
		to(t, m, h, "Number")
	}
	want(t, "six are promised", letIn(t, m, 1, r(1)), api.ErrBusy)
	to(t, m, 0, "Wait")
	to(t, m, 2, "Wait")
	to(t, m, 3, "Append") // it has a number, and no record
	want(t, "six are promised", letIn(t, m, 1, r(1)), api.ErrBusy)
	run(t, m, 0) // flushes both in one sector
	want(t, "operations", d.Count(), api.MaxOps-4)
	want(t, "two are promised, two are left", letIn(t, m, 1, r(1)), api.OK)
	run(t, m, 2)
	want(t, "none is left", letIn(t, m, 2, weighing(c, "z", 2, 100)), api.ErrBusy)
	run(t, m, 3)
	run(t, m, 1)
	want(t, "operations", d.Count(), api.MaxOps)
	want(t, "Durable", m.View().Durable, m.View().Given)
}

// TestP14_4_LogFull: a record is let in only with sectors of the log.
func TestP14_4_LogFull(t *testing.T) {
	c := quiet(20, 42) // a log of two sectors
	s := leaving(t, c, 1200)
	first, next := weighing(c, "f", 0, 100), weighing(c, "n", 1, 100)
	for _, at := range slices.Concat(unnoted, noted) {
		m := alongside(t, c, s, 0, first, at)
		want(t, "Free", m.View().Free, 1)
		want(t, "a sector is left beside "+at, letIn(t, m, 1, next), api.OK)
		want(t, "Free", m.View().Free, 0)
		want(t, "none is left beside "+at, letIn(t, m, 2, weighing(c, "o", 2, 100)), api.ErrBusy)
	}
	// What was refused so has taken nothing: with a new log it is let in.
	m, _ := memory(t, c, s, 1)
	want(t, "one sector", ask(t, m, 1, next).Err, api.OK)
	want(t, "two sectors of one", letIn(t, m, 1, long(c)), api.ErrBusy)
	want(t, "one sector of one", ask(t, m, 1, first).Err, api.OK)
	want(t, "Save", ask(t, m, 1, save("sss")).Err, api.OK)
	want(t, "two sectors of two", ask(t, m, 1, long(c)).Err, api.OK)
	want(t, "again: its first reply, with no sector for a record", ask(t, m, 1, long(c)).Err, api.OK)
	want(t, "another", ask(t, m, 1, weighing(c, "o", 2, 100)).Err, api.ErrBusy)
}

// TestP14_4_BusyWay: ErrBusy goes by Leave to Reply, and waits for nothing.
func TestP14_4_BusyWay(t *testing.T) {
	c := quiet(20, 41) // a log of one sector
	s := leaving(t, c, 1200)
	m := alongside(t, c, s, 0, weighing(c, "f", 0, 100), "Wait")
	r := restock(sized("n", 9, 0), line(c.Codes[1], 1))
	wantRun(t, m, 1, r, phases("Begin", entered(2), "Check Reserve", left(2), "Reply"), api.Reply{Id: r.Id, Err: api.ErrBusy})
	want(t, "Durable", m.View().Durable, s.Lsn)
}

// TestP14_7_FullWaits: what was refused for want of room waits for Noted, whatever stripes it has; but not for what is let in.
func TestP14_7_FullWaits(t *testing.T) {
	c := quiet(7, 60)
	s := leaving(t, c, 150)
	r := weighing(c, "n", 1, 100)
	const way = "Begin Ticket0 Enter0 Check Reserve Leave0"
	m := alongside(t, c, s, 0, weighing(c, "f", 0, 100), "Wait")
	wantRun(t, m, 1, r, phases(way, flushed(1)), api.Reply{Id: r.Id, Err: api.ErrFull})
	want(t, "Durable", m.View().Durable, s.Lsn+1)

	s = leaving(t, c, 90)
	m = alongside(t, c, s, 0, weighing(c, "f", 0, 80), "Append")
	wantRun(t, m, 1, r, phases(way, "Wait Reply"), api.Reply{Id: r.Id, Err: api.ErrFull})
	want(t, "Durable", m.View().Durable, s.Lsn)

	// Settled at Reserve: what is noted behind that is not waited for.
	s = leaving(t, c, 90)
	m = alongside(t, c, s, 0, weighing(c, "f", 0, 80), "Append")
	start(t, m, 1, r)
	to(t, m, 1, "Leave0")
	to(t, m, 0, "Wait")
	wantRest(t, m, 1, "Leave0 Wait Reply", api.Reply{Id: r.Id, Err: api.ErrFull})
	want(t, "Durable", m.View().Durable, s.Lsn)
}
