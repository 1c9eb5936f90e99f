package cart_test

import (
	"strconv"
	"strings"
	"testing"

	"larder/api"
	"larder/cart"
)

func levels(l ...api.Level) []api.Level { return l }

func level(code string, onHand, held int) api.Level {
	return api.Level{Code: code, OnHand: onHand, Held: held}
}

// turnAt lets handler 0 do an effect on a code from ahead of Odd to behind Even, once.
func turnAt(t *testing.T, m *cart.Shared, name, code string) {
	t.Helper()
	start(t, m, 0, restock(name, line(code, 1)))
	run(t, m, 0)
}

// TestP14_4_SeqFails: a Read that finds a counter odd tries again, from Seq 0; at the third time it goes by locks.
func TestP14_4_SeqFails(t *testing.T) {
	x := wide(2)
	tried := func(failures int) (*cart.Shared, string) {
		m, _ := memory(t, x.c, x.full(), 1)
		start(t, m, 0, restock(id("1", 3), line(x.p, 5)))
		to(t, m, 0, "Note")
		start(t, m, 1, read("r", x.p, x.o))
		step(t, m, 1) // Begin
		for range failures {
			want(t, "phase", standing(m, 1), "Seq0")
			step(t, m, 1) // Seq0: stripe 0 is even
			want(t, "phase", standing(m, 1), "Seq1")
			step(t, m, 1) // Seq1: stripe 1 is odd
		}
		return m, standing(m, 1)
	}
	reply := api.Reply{Id: "r", Levels: levels(level(x.o, 50, 0), level(x.p, 55, 0))}
	for failures := range 3 {
		m, at := tried(failures)
		want(t, "phase", at, "Seq0")
		to(t, m, 0, "Leave1")
		wantRest(t, m, 1, phases("Seq0 Seq1 Look0 Look1 Again0 Again1", flushed(1)), reply)
		wantPoints(t, m, api.Point{Handler: 0, Lsn: 1}, api.Point{Handler: 1})
	}
	m, at := tried(3)
	want(t, "phase behind three failures", at, "Ticket0")
	to(t, m, 1, "Enter1")
	wantBlocked(t, m, 1, 1)
	to(t, m, 0, "Leave1")
	wantBlocked(t, m, 1, 1) // 1 and 3 are its stripes: 1 is left last
	step(t, m, 0)
	wantBlocked(t, m, 1, 1)
	step(t, m, 0)
	wantRest(t, m, 1, phases("Enter1 Check", left(2), flushed(1)), reply)
	wantPoints(t, m, api.Point{Handler: 0, Lsn: 1}, api.Point{Handler: 1})
}

// TestP14_4_AgainFails: a Read whose stripes turned while it looked tries again, whether they still turn or have turned.
func TestP14_4_AgainFails(t *testing.T) {
	x := wide(2)
	names := []string{id("1", 3), id("2", 3), id("3", 3)}
	for _, place := range []string{"Again0", "Again1"} {
		code := map[string]string{"Again0": x.o2, "Again1": x.p}[place] // o2 is not read, but lies in o's stripe
		tried := func(failures int) *cart.Shared {
			m, _ := memory(t, x.c, x.full(), 1)
			start(t, m, 1, read("r", x.p, x.o))
			for i := range failures {
				to(t, m, 1, "Look0")
				turnAt(t, m, names[i], code)
				to(t, m, 1, place)
				step(t, m, 1)
			}
			return m
		}
		p := level(x.p, 50, 0)
		for failures := range 3 {
			if place == "Again1" {
				p.OnHand = 50 + failures
			}
			m := tried(failures)
			if failures > 0 {
				want(t, "phase behind a failure", standing(m, 1), "Seq0")
			} else {
				step(t, m, 1)
			}
			wantRest(t, m, 1, "Seq0 Seq1 Look0 Look1 Again0 Again1 Wait Reply", api.Reply{Id: "r", Levels: levels(level(x.o, 50, 0), p)})
		}
		m := tried(3)
		want(t, "phase behind three failures", standing(m, 1), "Ticket0")
		if place == "Again1" {
			p.OnHand = 53
		}
		wantRest(t, m, 1, phases(entered(2), "Check", left(2), "Wait Reply"), api.Reply{Id: "r", Levels: levels(level(x.o, 50, 0), p)})
	}
}

// TestP14_4_AgainOdd: at Again a counter that is odd is another number as well.
func TestP14_4_AgainOdd(t *testing.T) {
	x := wide(2)
	m, _ := memory(t, x.c, x.full(), 1)
	start(t, m, 1, read("r", x.o))
	to(t, m, 1, "Again0")
	start(t, m, 0, restock(id("1", 0), line(x.o, 1)))
	to(t, m, 0, "Apply0")
	step(t, m, 1)
	want(t, "phase", standing(m, 1), "Seq0")
	to(t, m, 0, "Leave0")
	wantRest(t, m, 1, phases("Seq0 Look0 Again0", flushed(1)), api.Reply{Id: "r", Levels: levels(level(x.o, 51, 0))})
}

// TestP14_4_Failures: failures at Seq and at Again are counted together, and anew for the next Read.
func TestP14_4_Failures(t *testing.T) {
	x := wide(2)
	m, _ := memory(t, x.c, x.full(), 1)
	start(t, m, 0, restock(id("1", 0), line(x.o, 1)))
	to(t, m, 0, "Apply0")
	start(t, m, 1, read("r", x.o))
	to(t, m, 1, "Seq0")
	step(t, m, 1)
	run(t, m, 0)
	to(t, m, 1, "Again0")
	turnAt(t, m, id("2", 0), x.o)
	step(t, m, 1)
	want(t, "phase behind two", standing(m, 1), "Seq0")
	start(t, m, 0, restock(id("3", 0), line(x.o, 1)))
	to(t, m, 0, "Even0")
	step(t, m, 1)
	want(t, "phase behind three", standing(m, 1), "Ticket0")
	to(t, m, 0, "Wait")
	run(t, m, 1)
	start(t, m, 1, read("s", x.p))
	want(t, "the next", run(t, m, 1), "Begin Seq0 Look0 Again0 Wait Reply")
}

// TestP14_3_ReadsPoint: it lies at the last Look, and shows from the last Again on.
func TestP14_3_ReadsPoint(t *testing.T) {
	x := wide(4)
	m, _ := memory(t, x.c, x.full(), 1)
	effect := func(h int, name, code string) {
		start(t, m, h, restock(name, line(code, 1)))
		to(t, m, h, "Wait")
	}
	start(t, m, 0, read("r", x.o, x.p))
	to(t, m, 0, "Look1")
	effect(1, id("1", 3), x.q) // ahead of its last Look
	step(t, m, 0)
	wantPoints(t, m, api.Point{Handler: 1, Lsn: 1})
	effect(2, id("2", 2), x.q) // behind it
	start(t, m, 3, read("s", x.o2))
	to(t, m, 3, "Again0")
	step(t, m, 0) // Again0
	wantPoints(t, m, api.Point{Handler: 1, Lsn: 1}, api.Point{Handler: 2, Lsn: 2})
	step(t, m, 0) // Again1
	wantPoints(t, m, api.Point{Handler: 1, Lsn: 1}, api.Point{Handler: 0}, api.Point{Handler: 2, Lsn: 2})
	run(t, m, 1)
	start(t, m, 1, tick("t", 1))
	run(t, m, 1)
	step(t, m, 3) // the other Read looked behind all but the Tick
	wantPoints(t, m, api.Point{Handler: 1, Lsn: 1}, api.Point{Handler: 0}, api.Point{Handler: 2, Lsn: 2}, api.Point{Handler: 3}, api.Point{Handler: 1, Lsn: 3})
	want(t, "levels are those of the Look", run(t, m, 0), "Wait Reply")
	wantReply(t, m, 0, api.Reply{Id: "r", Levels: levels(level(x.o, 50, 0), level(x.p, 50, 0))})
}

// TestP14_3_FailedReadHasNoPoint: a try that failed leaves none behind; one by locks has its own at Check.
func TestP14_3_FailedReadHasNoPoint(t *testing.T) {
	x := wide(2)
	m, _ := memory(t, x.c, x.full(), 1)
	start(t, m, 1, read("r", x.o))
	for i := range 3 {
		to(t, m, 1, "Again0")
		turnAt(t, m, id("123"[:i+1], 0), x.o)
		step(t, m, 1)
	}
	one, two, three := api.Point{Lsn: 1}, api.Point{Lsn: 2}, api.Point{Lsn: 3}
	to(t, m, 1, "Check")
	wantPoints(t, m, one, two, three)
	step(t, m, 1)
	wantPoints(t, m, one, two, three, api.Point{Handler: 1})
	turn := id("4", 0)
	start(t, m, 0, restock(turn, line(x.o, 1)))
	run(t, m, 1)
	wantReply(t, m, 1, api.Reply{Id: "r", Levels: levels(level(x.o, 53, 0))})
}

// TestP14_4_ReadWaits: for the Last of each of its stripes, as it is at Again, and for nothing else.
func TestP14_4_ReadWaits(t *testing.T) {
	x := wide(4)
	s := holding(x.full(), id("h", 0), 9, line(x.o, 1))
	begin := func() *cart.Shared {
		m, _ := memory(t, x.c, s, 1)
		start(t, m, 0, restock(id("1", 1), line(x.p, 1)))
		to(t, m, 0, "Wait")
		return m
	}
	const rest = "Wait Reply"
	m := begin()
	start(t, m, 1, read("r", x.o, x.o2))
	want(t, "a Read of other stripes", run(t, m, 1), "Begin Seq0 Look0 Look1 Again0 "+rest)
	want(t, "Durable", m.View().Durable, 0)
	start(t, m, 1, read("r", x.o, x.p, x.q))
	want(t, "a Read of that stripe among others", run(t, m, 1), "Begin Seq0 Seq1 Seq2 Look0 Look1 Look2 Again0 Again1 Again2 "+flushed(1))
	want(t, "Durable", m.View().Durable, 1)

	// An effect without goods turns no counter, but Last: the Read waits for that as it is at Again.
	m = begin()
	start(t, m, 1, read("r", x.o))
	to(t, m, 1, "Again0")
	start(t, m, 2, extend(id("2", 0), id("h", 0), 5))
	to(t, m, 2, "Wait")
	want(t, "behind an Extend", run(t, m, 1), "Again0 "+flushed(1))
	want(t, "Durable", m.View().Durable, 2)

	// Behind its Again it does not: not even for a number that comes ahead of its Wait.
	m = begin()
	start(t, m, 1, read("r", x.o))
	to(t, m, 1, "Wait")
	start(t, m, 2, extend(id("2", 0), id("h", 0), 5))
	to(t, m, 2, "Wait")
	want(t, "ahead of an Extend", run(t, m, 1), rest)
	want(t, "Durable", m.View().Durable, 0)
}

// TestP14_4_ReadByLocksWaits: for the greatest Last of its set.
func TestP14_4_ReadByLocksWaits(t *testing.T) {
	x := wide(4)
	byLocks := func(code string) (*cart.Shared, string) {
		m, _ := memory(t, x.c, x.full(), 1)
		start(t, m, 1, read("r", x.o, code))
		for i := range 3 {
			to(t, m, 1, "Again0")
			turnAt(t, m, id("123"[:i+1], 0), x.o)
			step(t, m, 1)
		}
		start(t, m, 2, restock(id("4", 1), line(x.p, 1)))
		to(t, m, 2, "Wait")
		return m, run(t, m, 1)
	}
	m, got := byLocks(x.p)
	want(t, "with a stripe that has an effect that is loose", got, phases(entered(2), "Check", left(2), flushed(1)))
	want(t, "Durable", m.View().Durable, 4)
	m, got = byLocks(x.q)
	want(t, "without", got, phases(entered(2), "Check", left(2), "Wait Reply"))
	want(t, "Durable", m.View().Durable, 3)
}

// TestP14_9_Counters: what a Read finds at each phase of an effect: a counter is odd just from its Odd to its Even.
func TestP14_9_Counters(t *testing.T) {
	x := wide(2)
	r := restock(id("1", 3), line(x.o, 1), line(x.o2, 1), line(x.p, 1), line(x.q, 1))
	whole := strings.Fields(phases(effect(4, 3, 4), left(4), flushed(1)))
	for stripe, code := range []string{x.o, x.p, x.q} {
		number := strconv.Itoa(stripe)
		odd := false
		for steps, next := range whole {
			m, _ := memory(t, x.c, x.full(), 1)
			start(t, m, 0, r)
			for range steps {
				step(t, m, 0)
			}
			start(t, m, 1, read("r", code))
			step(t, m, 1)
			step(t, m, 1)
			want(t, "ahead of "+next+" a Read of "+code+" stands in", standing(m, 1), map[bool]string{true: "Seq0", false: "Look0"}[odd])
			odd = (odd || next == "Odd"+number) && next != "Even"+number
		}
	}
}
