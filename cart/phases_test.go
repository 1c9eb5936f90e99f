package cart_test

import (
	"strings"
	"testing"

	"larder/api"
	"larder/wal"
)

// site is a store of four stripes: two codes lie in stripe 0, one in 1, one in 2, none in 3.
type site struct {
	c           api.Config
	o, o2, p, q string
}

func wide(handlers int) site {
	two := manyIn("o", 2, 0, 4)
	x := site{o: two[0], o2: two[1], p: in("p", 1, 4), q: in("q", 2, 4)}
	x.c = api.Config{Codes: []string{x.o, x.o2, x.p, x.q}, Stripes: 4, Handlers: handlers, Sectors: 100, Slot: 20}
	return x
}

// id answers an id in a stripe.
func id(name string, stripe int) string { return in(name+".", stripe, 4) }

// full answers a state in which there are 50 of each code.
func (x site) full() api.State {
	s := empty(x.c)
	for i := range s.Levels {
		s.Levels[i].OnHand = 50
	}
	return s
}

// holding lays a hold into a state.
func holding(s api.State, name string, deadline int, lines ...api.Line) api.State {
	s = copyState(s)
	s.Holds = append(s.Holds, api.Held{Id: name, Lines: lines, Deadline: deadline})
	for _, x := range lines {
		for i := range s.Levels {
			if s.Levels[i].Code == x.Code {
				s.Levels[i].Held += x.Qty
			}
		}
	}
	return s
}

// effect answers the phases of an effect up to its first Leave: so many stripes of its set, stripes of its goods, codes of its goods.
func effect(set, stripes, codes int) string {
	return phases("Begin", entered(set), "Check Reserve Number Append", counted("Odd", stripes), counted("Apply", codes), "Note", counted("Even", stripes))
}

// alone answers all phases of an effect that nobody is beside, with a record of one sector.
func alone(set, stripes, codes int) string {
	return phases(effect(set, stripes, codes), left(set), flushed(1))
}

// TestP14_4_Sets: the stripes of a request's set and of its goods, by the phases it goes through.
func TestP14_4_Sets(t *testing.T) {
	x := wide(1)
	state := holding(holding(x.full(), id("g", 3), 100, line(x.p, 1)), id("h", 3), 100, line(x.o, 2), line(x.o2, 3), line(x.q, 1))
	g, h := id("g", 3), id("h", 3)
	no := api.Reply{}
	for _, k := range []struct {
		name   string
		r      api.Request
		phases string
		reply  api.Reply
	}{
		{"Restock of one code in its Id's stripe", restock(id("1", 0), line(x.o, 1)), alone(1, 1, 1), no},
		{"Restock of one code in another stripe", restock(id("1", 1), line(x.o, 1)), alone(2, 1, 1), no},
		{"Restock of two codes in one stripe", restock(id("1", 0), line(x.o2, 1), line(x.o, 1)), alone(1, 1, 2), no},
		{"Restock of one code three times", restock(id("1", 3), line(x.p, 1), line(x.p, 2), line(x.p, 4)), alone(2, 1, 1), no},
		{"Restock of all codes", restock(id("1", 3), line(x.q, 1), line(x.o, 1), line(x.p, 1), line(x.o2, 1)), phases(effect(4, 3, 4), left(4), flushed(1)), no},
		{"Writeoff of two codes in two stripes", writeoff(id("1", 1), line(x.p, 1), line(x.q, 1)), alone(2, 2, 2), no},
		{"Hold of two codes in two stripes", hold(id("1", 3), 9, line(x.p, 1), line(x.o, 1)), alone(3, 2, 2), api.Reply{Now: 9}},
		{"Commit of three codes in two stripes", commit(id("1", 3), h), alone(3, 2, 3), no},
		{"Commit of one code", commit(id("1", 1), g), alone(2, 1, 1), no},
		{"Release of three codes in two stripes", release(id("1", 1), h), alone(4, 2, 3), no},
		{"Extend, without goods", extend(id("1", 0), h, 7), phases("Begin", entered(3), "Check Reserve Number Append Note", left(3), flushed(1)), api.Reply{Now: 7}},
		{"Extend in one stripe beside the hold's", extend(id("1", 3), g, 7), phases("Begin", entered(2), "Check Reserve Number Append Note", left(2), flushed(1)), api.Reply{Now: 7}},
		{"Tick, without goods", tick(id("1", 2), 99), phases("Begin", entered(4), "Check Reserve Number Append Note", left(4), flushed(1)), api.Reply{Now: 99}},
		{"Tick, two holds lapse", tick(id("1", 2), 100), alone(4, 3, 4), api.Reply{Now: 100}},
		{"Save", save(id("1", 2)), phases("Begin", entered(4), "Check Role", counted("Body", 1), "Fence Head Switch", left(4), "Reply"), no},
		{"Read of one code", read(id("1", 2), x.o), "Begin Seq0 Look0 Again0 Wait Reply", api.Reply{Levels: []api.Level{levelOf(state, x.o)}}},
		{"Read of two codes in one stripe, one of them twice", read(id("1", 2), x.o2, x.o, x.o2), "Begin Seq0 Look0 Look1 Again0 Wait Reply", api.Reply{Levels: []api.Level{levelOf(state, x.o), levelOf(state, x.o2)}}},
		{"Read of three codes in two stripes", read(id("1", 2), x.o2, x.q, x.o), "Begin Seq0 Seq1 Look0 Look1 Look2 Again0 Again1 Wait Reply", api.Reply{Levels: []api.Level{levelOf(state, x.o), levelOf(state, x.o2), levelOf(state, x.q)}}},
		{"a Commit of no hold", commit(id("1", 1), id("no", 3)), phases("Begin", entered(2), "Check", left(2), "Wait Reply"), api.Reply{Err: api.ErrNoHold}},
		{"a Release of no hold, in one stripe", release(id("1", 3), id("no", 3)), "Begin Ticket0 Enter0 Check Leave0 Wait Reply", api.Reply{Err: api.ErrNoHold}},
		{"a Writeoff of too much", writeoff(id("1", 1), line(x.p, 2), line(x.q, 50)), phases("Begin", entered(2), "Check", left(2), "Wait Reply"), api.Reply{Err: api.ErrStock, Line: 1}},
		{"a Restock of an unknown code", restock(id("1", 1), line(x.p, 2), line(in("z", 3, 4), 1)), phases("Begin", entered(2), "Check", left(2), "Wait Reply"), api.Reply{Err: api.ErrNoCode, Line: 1}},
		{"a Read of an unknown code", read(id("1", 1), x.o, "z", "y"), "Begin Reply", api.Reply{Err: api.ErrNoCode, Line: 1}},
		{"a Read that is not well formed", api.Request{Id: "1", Kind: api.KindRead, Lines: []api.Line{line("z", 0), line("z", 1)}}, "Begin Reply", api.Reply{Err: api.ErrQty, Line: 1}},
		{"a Tick that is not well formed", tick("1", -1), "Begin Reply", api.Reply{Err: api.ErrNow}},
		{"nothing", api.Request{}, "Begin Reply", api.Reply{Err: api.ErrId}},
	} {
		t.Run(k.name, func(t *testing.T) {
			m, _ := memory(t, x.c, state, 1)
			k.reply.Id = k.r.Id
			before := len(m.Points())
			wantRun(t, m, 0, k.r, k.phases, k.reply)
			want(t, "points", len(m.Points())-before, 1)
			l := ledgerOf(t, state)
			l.Do(k.r)
			wantState(t, m, l.State())
		})
	}
}

// TestP14_4_Restock: what can be seen behind each step of an effect: the number, the state, what is reserved, and the disk.
func TestP14_4_Restock(t *testing.T) {
	x := wide(1)
	s := x.full()
	m, d := memory(t, x.c, s, 1)
	r := restock(id("1", 3), line(x.p, 7), line(x.o2, 2))
	weight := m.View().Weight
	more := 51 + len(r.Id) + 22 + len(x.p) + len(x.o2)
	want(t, "what it will weigh", stockWeight(t, s, r)-weight, more)
	start(t, m, 0, r)
	seen := func() api.View { return m.View() }
	first := seen()
	for standing(m, 0) != "Reserve" {
		step(t, m, 0)
		want(t, "View behind "+standing(m, 0), seen(), first)
	}
	step(t, m, 0) // Reserve
	v := first
	v.Reserved, v.Free = weight+more, first.Free-1
	want(t, "View behind Reserve", seen(), v)
	want(t, "Number behind Reserve", m.Number(0), 0)
	step(t, m, 0) // Number
	v.Given = 1
	want(t, "View behind Number", seen(), v)
	want(t, "Number behind Number", m.Number(0), 1)
	step(t, m, 0) // Append
	step(t, m, 0) // Odd0
	step(t, m, 0) // Odd1
	want(t, "View behind Odd1", seen(), v)
	wantState(t, m, s)
	step(t, m, 0) // Apply0: in order of codes
	turned := copyState(s)
	turned.Levels[1].OnHand += 2
	wantState(t, m, turned)
	step(t, m, 0) // Apply1
	turned.Levels[2].OnHand += 7
	wantState(t, m, turned)
	want(t, "View behind Apply1", seen(), v)
	wantPoints(t, m)
	want(t, "Last ahead of Note", m.Last(3), 0)
	step(t, m, 0) // Note
	v.Noted, v.Weight = 1, weight+more
	want(t, "View behind Note", seen(), v)
	turned = behind(t, s, r)
	wantState(t, m, turned)
	wantPoints(t, m, api.Point{Handler: 0, Lsn: 1})
	for stripe, n := range []int{1, 1, 0, 1} {
		want(t, "Last behind Note", m.Last(stripe), n)
	}
	to(t, m, 0, "Wait")
	want(t, "View ahead of Wait", seen(), v)
	step(t, m, 0) // Wait
	v.Flusher = 0
	want(t, "View behind Wait", seen(), v)
	step(t, m, 0) // Collect
	want(t, "operations ahead of Write", d.Count(), 0)
	step(t, m, 0) // Write
	want(t, "operations behind Write", d.Count(), 1)
	want(t, "View behind Write", seen(), v)
	step(t, m, 0) // Barrier
	want(t, "operations behind Barrier", d.Count(), 2)
	want(t, "loose writes behind Barrier", len(d.Pending()), 0)
	v.Flusher, v.Durable = -1, 1
	want(t, "View behind Barrier", seen(), v)
	records, _, _ := wal.Scan(d, 40, 60, 1, 0)
	want(t, "records on disk", len(records), 1)
	wantRest(t, m, 0, "Wait Reply", api.Reply{Id: r.Id})
	want(t, "View in the end", seen(), v)
}

// TestP14_4_Records: a record of several sectors takes several steps of Write, each one write of the disk.
func TestP14_4_Records(t *testing.T) {
	c := plain()
	c.Codes, c.Slot, c.Sectors = names(32, 40), 40, 200
	m, d := fresh(t, c)
	var l []api.Line
	for _, code := range c.Codes {
		l = append(l, line(code, api.MaxStock))
	}
	r := restock("1", l...)
	// 7 bytes, and 32 lines of 1 + 40 and the 10 of a great number: 1639, with number and length in the stream 1642: 15 sectors, while Need counts 15 as well.
	start(t, m, 0, r)
	to(t, m, 0, "Number")
	want(t, "Free", m.View().Free, 120-15)
	to(t, m, 0, "Wait")
	wantRest(t, m, 0, flushed(15), api.Reply{Id: "1"})
	want(t, "operations", d.Count(), 16)
}

// TestP14_4_Enter: the locks are taken by tickets, first come first served, each stripe for itself.
func TestP14_4_Enter(t *testing.T) {
	x := wide(4)
	m, _ := memory(t, x.c, x.full(), 1)
	for h := range 3 {
		start(t, m, h, restock(id(strings.Repeat("k", h+1), 0), line(x.p, 1)))
	}
	start(t, m, 3, restock(id("alone", 2), line(x.q, 1)))
	to(t, m, 1, "Enter0")
	to(t, m, 0, "Enter0")
	to(t, m, 2, "Enter0")
	wantBlocked(t, m, 0, 0)
	wantBlocked(t, m, 2, 0)
	want(t, "On of the first", m.On(1), -1)
	to(t, m, 1, "Ticket1")
	to(t, m, 1, "Enter1")
	want(t, "On at the second stripe", m.On(1), -1)
	run(t, m, 3) // it has none of these stripes
	to(t, m, 1, "Leave0")
	wantBlocked(t, m, 0, 0)
	step(t, m, 1)
	want(t, "On when the lock was left", m.On(0), -1)
	wantBlocked(t, m, 2, 0)
	to(t, m, 0, "Ticket1")
	to(t, m, 0, "Reserve")
	wantBlocked(t, m, 2, 0)
	run(t, m, 1)
	run(t, m, 0)
	run(t, m, 2)
	// 3's point came first, then by tickets.
	wantPoints(t, m, api.Point{Handler: 3, Lsn: 1}, api.Point{Handler: 1, Lsn: 2}, api.Point{Handler: 0, Lsn: 3}, api.Point{Handler: 2, Lsn: 4})
}

// TestP14_4_EnterSecond: a handler is blocked at its second stripe by one that has only that.
func TestP14_4_EnterSecond(t *testing.T) {
	x := wide(2)
	m, _ := memory(t, x.c, x.full(), 1)
	start(t, m, 0, restock(id("1", 2), line(x.q, 1)))
	to(t, m, 0, "Reserve")
	start(t, m, 1, restock(id("2", 0), line(x.o, 1), line(x.q, 1)))
	to(t, m, 1, "Enter1")
	wantBlocked(t, m, 1, 2)
	to(t, m, 0, "Leave0")
	wantBlocked(t, m, 1, 2)
	step(t, m, 0)
	run(t, m, 1)
	run(t, m, 0)
}

// TestP14_4_LeaveSetsFree: locks are left from the last down, each at its own step.
func TestP14_4_LeaveSetsFree(t *testing.T) {
	x := wide(3)
	m, _ := memory(t, x.c, x.full(), 1)
	start(t, m, 0, restock(id("1", 0), line(x.q, 1)))
	to(t, m, 0, "Leave1")
	start(t, m, 1, restock(id("2", 2), line(x.q, 1)))
	start(t, m, 2, restock(id("3", 0), line(x.o, 1)))
	to(t, m, 1, "Enter0")
	to(t, m, 2, "Enter0")
	wantBlocked(t, m, 1, 2)
	wantBlocked(t, m, 2, 0)
	step(t, m, 0)
	want(t, "On behind Leave1", m.On(1), -1)
	wantBlocked(t, m, 2, 0)
	step(t, m, 0)
	want(t, "On behind Leave0", m.On(2), -1)
}

// TestP14_4_Wait: who waits while another flushes; who flushes for others; and with nothing left to wait for.
func TestP14_4_Wait(t *testing.T) {
	x := wide(3)
	m, d := memory(t, x.c, x.full(), 1)
	for h, stripe := range []int{0, 1, 2} {
		start(t, m, h, restock(id("w", stripe), line([]string{x.o, x.p, x.q}[h], 1)))
		to(t, m, h, "Wait")
	}
	want(t, "flusher", m.View().Flusher, -1)
	for h := range 3 {
		want(t, "On, when nobody flushes", m.On(h), -1)
	}
	step(t, m, 1)
	want(t, "flusher", m.View().Flusher, 1)
	for _, at := range []string{"Collect", "Write", "Barrier"} {
		want(t, "phase", standing(m, 1), at)
		wantBlocked(t, m, 0, api.OnWater)
		wantBlocked(t, m, 2, api.OnWater)
		step(t, m, 1)
	}
	want(t, "flusher", m.View().Flusher, -1)
	want(t, "Durable", m.View().Durable, 3)
	want(t, "operations", d.Count(), 2) // one sector for all three
	for _, h := range []int{2, 1, 0} {
		want(t, "the rest", run(t, m, h), "Wait Reply")
	}
}

// TestP14_4_WaitBehindAFlush: a record that came behind Collect is not in that flush, and needs one of its own.
func TestP14_4_WaitBehindAFlush(t *testing.T) {
	x := wide(3)
	m, _ := memory(t, x.c, x.full(), 1)
	start(t, m, 0, restock(id("1", 0), line(x.o, 1)))
	to(t, m, 0, "Write")
	start(t, m, 1, restock(id("2", 1), line(x.p, 1)))
	to(t, m, 1, "Wait")
	wantBlocked(t, m, 1, api.OnWater)
	// One that hangs on nothing is not blocked by the flush.
	start(t, m, 2, read(id("3", 1), x.q))
	want(t, "a Read beside a flush", run(t, m, 2), "Begin Seq0 Look0 Again0 Wait Reply")
	to(t, m, 0, "Wait")
	want(t, "Durable", m.View().Durable, 1)
	want(t, "On, when nobody flushes any more", m.On(1), -1)
	wantRest(t, m, 1, flushed(1), api.Reply{Id: id("2", 1)})
	want(t, "the rest", run(t, m, 0), "Wait Reply")
}

// TestP14_4_CollectOfNothing: as long as a lesser number has no record, a flush is of nothing, and the flusher is none again.
func TestP14_4_CollectOfNothing(t *testing.T) {
	x := wide(3)
	m, d := memory(t, x.c, x.full(), 1)
	start(t, m, 0, restock(id("1", 0), line(x.o, 1)))
	to(t, m, 0, "Append")
	start(t, m, 1, restock(id("2", 1), line(x.p, 1)))
	to(t, m, 1, "Wait")
	for range 3 {
		step(t, m, 1)
		want(t, "phase", standing(m, 1), "Collect")
		want(t, "flusher", m.View().Flusher, 1)
		step(t, m, 1)
		want(t, "phase", standing(m, 1), "Wait")
		want(t, "flusher", m.View().Flusher, -1)
	}
	want(t, "operations", d.Count(), 0)
	step(t, m, 0) // Append
	wantRest(t, m, 1, flushed(1), api.Reply{Id: id("2", 1)})
	want(t, "Durable", m.View().Durable, 2)
	want(t, "View", m.View().Noted, 2)
	to(t, m, 0, "Note")
	want(t, "a point behind the second's", len(m.Points()), 1)
	step(t, m, 0)
	wantPoints(t, m, api.Point{Handler: 1, Lsn: 2}, api.Point{Handler: 0, Lsn: 1})
	want(t, "Noted is the greater one", m.View().Noted, 2)
	want(t, "Last is its own", m.Last(0), 1)
	to(t, m, 0, "Wait")
	want(t, "the rest", run(t, m, 0), "Wait Reply")
}
