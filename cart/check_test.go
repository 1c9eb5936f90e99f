package cart_test

import (
	"testing"

	"larder/api"
	"larder/cart"
)

// ofHold answers the three kinds of requests that are about a hold.
func ofHold(name, hold string) []api.Request {
	return []api.Request{commit(name, hold), release(name, hold), extend(name, hold, 7)}
}

// TestP14_4_HoldCame: one that was not there at Begin and is at Check: it begins anew, with the hold's codes in its set.
func TestP14_4_HoldCame(t *testing.T) {
	x := wide(2)
	for _, r := range ofHold(id("1", 3), id("h", 3)) {
		m, _ := memory(t, x.c, x.full(), 1)
		start(t, m, 0, r)
		to(t, m, 0, "Ticket0")
		ask(t, m, 1, hold(r.Hold, 50, line(x.o, 1), line(x.q, 2)))
		to(t, m, 0, "Leave0")
		wantPoints(t, m, api.Point{Handler: 1, Lsn: 1})
		step(t, m, 0)
		want(t, "phase", standing(m, 0), "Begin")
		rest := alone(3, 2, 2)
		if r.Kind == api.KindExtend {
			rest = phases("Begin", entered(3), "Check Reserve Number Append Note", left(3), flushed(1))
		}
		wantRest(t, m, 0, rest, api.Reply{Id: r.Id, Now: map[int]int{api.KindExtend: 7}[r.Kind]})
		wantPoints(t, m, api.Point{Handler: 1, Lsn: 1}, api.Point{Handler: 0, Lsn: 2})
		wantState(t, m, behind(t, x.full(), hold(r.Hold, 50, line(x.o, 1), line(x.q, 2)), r))
	}
}

// TestP14_4_HoldWent: one that was there at Begin and is not at Check: ErrNoHold, and it waits for what took it.
func TestP14_4_HoldWent(t *testing.T) {
	x := wide(2)
	name := id("h", 3)
	for _, r := range ofHold(id("1", 3), name) {
		for _, other := range []api.Request{commit(id("2", 0), name), release(id("2", 0), name), tick(id("2", 0), 50)} {
			m, _ := memory(t, x.c, holding(x.full(), name, 50, line(x.o, 1), line(x.p, 1)), 1)
			start(t, m, 0, r)
			to(t, m, 0, "Ticket0")
			start(t, m, 1, other)
			to(t, m, 1, "Wait")
			wantRest(t, m, 0, phases(entered(3), "Check", left(3), flushed(1)), api.Reply{Id: r.Id, Err: api.ErrNoHold})
			wantPoints(t, m, api.Point{Handler: 1, Lsn: 1}, api.Point{Handler: 0})
		}
	}
}

// TestP14_4_HoldBecameAnother: other lines than were seen, by code or by number alone: anew. The same lines once more: it goes on.
func TestP14_4_HoldBecameAnother(t *testing.T) {
	x := wide(2)
	name := id("h", 3)
	seen := []api.Line{line(x.o, 1), line(x.p, 2)}
	for _, r := range ofHold(id("1", 3), name) {
		for _, k := range []struct {
			name  string
			lines []api.Line
			anew  bool
		}{
			{"other codes", []api.Line{line(x.q, 1)}, true},
			{"a line more", []api.Line{line(x.o, 1), line(x.p, 2), line(x.q, 1)}, true},
			{"a line less", []api.Line{line(x.o, 1)}, true},
			{"another number", []api.Line{line(x.o, 1), line(x.p, 3)}, true},
			{"the same lines", seen, false},
			{"the same lines in another order", []api.Line{line(x.p, 2), line(x.o, 1)}, false},
		} {
			m, _ := memory(t, x.c, holding(x.full(), name, 50, seen...), 1)
			start(t, m, 0, r)
			to(t, m, 0, "Ticket0")
			ask(t, m, 1, release(id("2", 0), name))
			ask(t, m, 1, hold(name, 20, k.lines...))
			to(t, m, 0, "Check")
			step(t, m, 0)
			if k.anew {
				want(t, k.name, standing(m, 0), "Leave2")
				to(t, m, 0, "Begin")
				want(t, k.name+": points", len(m.Points()), 2)
			} else {
				want(t, k.name, standing(m, 0), "Reserve")
			}
			run(t, m, 0)
			want(t, k.name, len(m.Points()), 3)
			x, _ := m.Reply(0)
			want(t, k.name, x.Err, api.OK)
		}
	}
}

// TestP14_4_HoldTurnsTwice: it begins anew as often as the hold turns.
func TestP14_4_HoldTurnsTwice(t *testing.T) {
	x := wide(2)
	name := id("h", 3)
	m, _ := memory(t, x.c, holding(x.full(), name, 50, line(x.o, 1)), 1)
	start(t, m, 0, commit(id("1", 3), name))
	for i, code := range []string{x.p, x.q, x.o2} {
		to(t, m, 0, "Ticket0")
		ask(t, m, 1, release(id("r", i), name))
		start(t, m, 1, api.Request{Id: id("t", i), Kind: api.KindTick, Now: (i + 1) * api.KeptFor})
		run(t, m, 1)
		ask(t, m, 1, hold(name, 50, line(code, 2)))
		to(t, m, 0, "Leave0")
		step(t, m, 0)
		want(t, "phase", standing(m, 0), "Begin")
	}
	wantRest(t, m, 0, alone(2, 1, 1), api.Reply{Id: id("1", 3)})
	want(t, "sold", levelOf(m.State(), x.o2), level(x.o2, 48, 0))
}

// TestP14_4_SeenAheadOfRemembered: a request that is remembered looks at its hold first: anew, and then its first reply.
func TestP14_4_SeenAheadOfRemembered(t *testing.T) {
	x := wide(2)
	name := id("h", 3)
	m, _ := memory(t, x.c, holding(x.full(), name, 50, line(x.o, 1)), 1)
	r := extend(id("1", 3), name, 9)
	want(t, "the first time", ask(t, m, 0, r).Now, 9)
	start(t, m, 0, r)
	to(t, m, 0, "Ticket0")
	ask(t, m, 1, release(id("2", 0), name))
	ask(t, m, 1, hold(name, 20, line(x.p, 1)))
	to(t, m, 0, "Leave0")
	step(t, m, 0)
	want(t, "phase", standing(m, 0), "Begin")
	wantRest(t, m, 0, phases("Begin", entered(2), "Check", left(2), "Wait Reply"), api.Reply{Id: r.Id, Now: 9})
	wantPoints(t, m, api.Point{Lsn: 1}, api.Point{Handler: 1, Lsn: 2}, api.Point{Handler: 1, Lsn: 3}, api.Point{})
}

// TestP14_4_Refusals: each refusal of rules 2 to 4 of the ledger, its line, and that the first one counts.
func TestP14_4_Refusals(t *testing.T) {
	x := wide(1)
	name := id("h", 3)
	s := behind(t, holding(x.full(), name, 50, line(x.o, 40)), restock("1", line(x.o, 1), line(x.p, 2)), hold("k", 9, line(x.p, 1)))
	s.Levels[3].OnHand = api.MaxStock - 5
	lines := func(l ...api.Line) []api.Line { return l }
	for _, k := range []struct {
		name string
		r    api.Request
		want api.Reply
	}{
		{"the same", restock("1", line(x.p, 2), line(x.o, 1)), api.Reply{}},
		{"the same hold", hold("k", 9, line(x.p, 1)), api.Reply{Now: 9}},
		{"another number", restock("1", line(x.p, 2), line(x.o, 2)), api.Reply{Err: api.ErrOther}},
		{"another kind", writeoff("1", line(x.p, 2), line(x.o, 1)), api.Reply{Err: api.ErrOther}},
		{"another Ttl", hold("k", 8, line(x.p, 1)), api.Reply{Err: api.ErrOther}},
		{"another kind without lines", tick("1", 0), api.Reply{Err: api.ErrOther}},
		{"another, of an unknown code", restock("1", line("z", 2)), api.Reply{Err: api.ErrOther}},
		{"an unknown code, and too much", writeoff("2", line(x.o, 99), line("z", 2), line("y", 1)), api.Reply{Err: api.ErrNoCode, Line: 1}},
		{"too much to count", restock("2", lines(line(x.p, 1), line(x.q, 5), line(x.o, 1), line(x.q, 1))...), api.Reply{Err: api.ErrOver, Line: 1}},
		{"just not too much", restock("2", lines(line(x.p, 1), line(x.q, 4), line(x.q, 1))...), api.Reply{}},
		{"a writeoff of what is held", writeoff("2", line(x.p, 1), line(x.o, 8), line(x.o, 4)), api.Reply{Err: api.ErrStock, Line: 1}},
		{"a writeoff of what is free", writeoff("2", line(x.p, 1), line(x.o, 8), line(x.o, 3)), api.Reply{}},
		{"a hold of what is held", hold("2", 5, line(x.p, 51), line(x.o, 12)), api.Reply{Err: api.ErrStock, Line: 1}},
		{"a hold of what is free", hold("2", 5, line(x.p, 51), line(x.o, 11)), api.Reply{Now: 5}},
		{"a hold that is there, of too much", hold(name, 5, line(x.p, 99)), api.Reply{Err: api.ErrThere}},
		{"a hold that is there, of an unknown code", hold(name, 5, line(x.p, 1), line("z", 1)), api.Reply{Err: api.ErrNoCode, Line: 1}},
		{"a Commit of nothing", commit("2", "no"), api.Reply{Err: api.ErrNoHold}},
		{"a Release of nothing", release("2", "no"), api.Reply{Err: api.ErrNoHold}},
		{"an Extend of nothing", extend("2", "no", 1), api.Reply{Err: api.ErrNoHold}},
	} {
		m, _ := memory(t, x.c, s, 1)
		k.want.Id = k.r.Id
		got := ask(t, m, 0, k.r)
		if !sameReply(got, k.want) {
			t.Errorf("%s: %s, want %s", k.name, show(got), show(k.want))
		}
		l := ledgerOf(t, s)
		if x := l.Do(k.r); !sameReply(x, k.want) {
			t.Errorf("%s: a ledger: %s", k.name, show(x))
		}
		wantState(t, m, l.State())
	}
}

// TestP14_7_RefusalWaits: a refusal and a first reply wait for the greatest Last of their set, as it is at Check, and for nothing else.
func TestP14_7_RefusalWaits(t *testing.T) {
	x := wide(3)
	s := holding(x.full(), id("h", 0), 50, line(x.o, 40))
	begin := func() *cart.Shared {
		m, _ := memory(t, x.c, s, 1)
		start(t, m, 0, restock(id("1", 0), line(x.o, 1)))
		to(t, m, 0, "Wait")
		return m
	}
	for _, k := range []struct {
		name  string
		r     api.Request
		set   int
		waits bool
	}{
		{"a refusal in its stripe", writeoff(id("2", 0), line(x.o, 50)), 1, true},
		{"a refusal by its Id's stripe", writeoff(id("2", 0), line(x.p, 51)), 2, true},
		{"a refusal by its last stripe's neighbour", writeoff(id("2", 2), line(x.o, 50)), 2, true},
		{"a refusal in other stripes", writeoff(id("2", 1), line(x.q, 51)), 2, false},
		{"a first reply", restock(id("1", 0), line(x.o, 1)), 1, true},
		{"another by its Id", restock(id("1", 0), line(x.q, 1)), 2, true},
		{"no hold", commit(id("2", 1), id("no", 2)), 2, false},
		{"no hold in its stripe", commit(id("2", 1), id("no", 0)), 2, true},
	} {
		m := begin()
		start(t, m, 1, k.r)
		rest := "Wait Reply"
		if k.waits {
			rest = flushed(1)
		}
		want(t, k.name, run(t, m, 1), phases("Begin", entered(k.set), "Check", left(k.set), rest))
		want(t, k.name+": Durable", m.View().Durable == 1, k.waits)
		want(t, k.name+": points", len(m.Points()), 2)
	}

	// Settled at Check: what comes behind that is not waited for.
	m := begin()
	start(t, m, 1, writeoff(id("2", 1), line(x.q, 51)))
	to(t, m, 1, "Leave0")
	start(t, m, 2, restock(id("3", 2), line(x.q, 1)))
	to(t, m, 2, "Wait")
	want(t, "an effect behind the refusal", run(t, m, 1), "Leave0 Wait Reply")
	want(t, "Durable", m.View().Durable, 0)
}
