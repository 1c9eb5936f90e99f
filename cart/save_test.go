package cart_test

import (
	"testing"

	"larder/api"
	"larder/cart"
	"larder/disk"
	"larder/mend"
)

// newest answers the state and the epoch of the newest checkpoint that no power failure takes away.
func newest(t *testing.T, d *disk.Disk, c api.Config) (api.State, int) {
	t.Helper()
	b, _ := disk.New(d.Durable(), c.Sectors)
	s, epoch, e := mend.Newest(b, c)
	if e != api.OK {
		t.Fatalf("Newest: %d", e)
	}
	return s, epoch
}

// saved answers the phases of a Save in four stripes with a body of so many sectors.
func saved(flush string, body int) string {
	return phases("Begin", entered(4), "Check Role", flush, counted("Body", body), "Fence Head Switch", left(4), "Reply")
}

// grown answers a state whose bytes need several sectors, and how many.
func grown(t *testing.T, x site) (api.State, int) {
	t.Helper()
	s := x.full()
	for i := range 6 {
		s = behind(t, s, restock(id("g", i%4)+"x"+string(rune('a'+i)), line(x.o, 1), line(x.p, 1)))
	}
	body, _, e := mend.Layout(x.c, 1, s)
	if e != api.OK || len(body) < 2 {
		t.Fatalf("%d sectors, %d", len(body), e)
	}
	return s, len(body)
}

// TestP14_4_SaveAlone: without records that are not durable; a body of one sector and of several.
func TestP14_4_SaveAlone(t *testing.T) {
	x := wide(1)
	s, sectors := grown(t, x)
	for _, k := range []struct {
		s    api.State
		body int
	}{{x.full(), 1}, {s, sectors}} {
		m, d := memory(t, x.c, k.s, 4)
		v := m.View()
		wantRun(t, m, 0, save("s"), saved("", k.body), api.Reply{Id: "s"})
		want(t, "operations", d.Count(), k.body+3)
		v.Life = 5
		want(t, "View", m.View(), v)
		wantState(t, m, k.s)
		wantPoints(t, m, api.Point{})
		if got, epoch := newest(t, d, x.c); epoch != 5 || !sameState(got, k.s) {
			t.Errorf("on disk: %s, %d", show(got), epoch)
		}
	}
}

// TestP14_4_SaveStepByStep: what each step of a Save does, with records that are not durable.
func TestP14_4_SaveStepByStep(t *testing.T) {
	x := wide(3)
	s, sectors := grown(t, x)
	m, d := memory(t, x.c, s, 1)
	for h := range 2 {
		start(t, m, h, restock(id("1", h), line([]string{x.o, x.p}[h], 3)))
		to(t, m, h, "Wait")
	}
	state, free := m.State(), m.View().Free
	start(t, m, 2, save("s"))
	to(t, m, 2, "Check")
	wantPoints(t, m, api.Point{Lsn: 7}, api.Point{Handler: 1, Lsn: 8})
	step(t, m, 2)
	wantPoints(t, m, api.Point{Lsn: 7}, api.Point{Handler: 1, Lsn: 8}, api.Point{Handler: 2})
	want(t, "phase", standing(m, 2), "Role")
	want(t, "flusher", m.View().Flusher, -1)
	step(t, m, 2)
	want(t, "phase", standing(m, 2), "Collect")
	want(t, "flusher", m.View().Flusher, 2)
	wantBlocked(t, m, 0, api.OnWater)
	step(t, m, 2)
	step(t, m, 2) // Write
	wantBlocked(t, m, 1, api.OnWater)
	want(t, "phase", standing(m, 2), "Barrier")
	step(t, m, 2)
	want(t, "Durable", m.View().Durable, 8)
	want(t, "flusher behind the Barrier", m.View().Flusher, 2)
	want(t, "On", m.On(0), -1)
	body, head, _ := mend.Layout(x.c, 2, state)
	want(t, "sectors", len(body) >= sectors, true)
	for i, w := range body {
		want(t, "phase", standing(m, 2), named(api.PhaseBody, i))
		step(t, m, 2)
		got, _ := d.Read(w.Sector)
		want(t, "a body's sector", string(got), string(w.Bytes))
		want(t, "loose writes", len(d.Pending()), i+1)
	}
	want(t, "phase", standing(m, 2), "Fence")
	step(t, m, 2)
	want(t, "loose writes behind Fence", len(d.Pending()), 0)
	step(t, m, 2)
	got, _ := d.Read(head.Sector)
	want(t, "the header", string(got), string(head.Bytes))
	if _, epoch := newest(t, d, x.c); epoch != 1 {
		t.Errorf("epoch %d behind Head", epoch)
	}
	want(t, "Life ahead of Switch", m.View().Life, 1)
	want(t, "Free ahead of Switch", m.View().Free, free)
	want(t, "flusher ahead of Switch", m.View().Flusher, 2)
	step(t, m, 2)
	if got, epoch := newest(t, d, x.c); epoch != 2 || !sameState(got, state) {
		t.Errorf("behind Switch: %s, %d", show(got), epoch)
	}
	v := m.View()
	want(t, "Life", v.Life, 2)
	want(t, "Free", v.Free, 60)
	want(t, "flusher", v.Flusher, -1)
	want(t, "Given", v.Given, 8)
	want(t, "Durable", v.Durable, 8)
	want(t, "phase", standing(m, 2), "Leave3")
	wantRest(t, m, 2, phases(left(4), "Reply"), api.Reply{Id: "s"})
	for h := range 2 {
		want(t, "the rest", run(t, m, h), "Wait Reply")
	}
	// The log of the new life goes on with the next number.
	ask(t, m, 0, restock(id("2", 0), line(x.o, 1)))
	b, _ := disk.New(d.Durable(), x.c.Sectors)
	back, epoch, n, e := mend.Recover(b, x.c)
	if e != api.OK || epoch != 3 || n != 1 || !sameState(back, m.State()) {
		t.Errorf("Recover: %s, %d, %d, %d", show(back), epoch, n, e)
	}
}

// TestP14_4_Role: a Save waits while another flushes.
func TestP14_4_Role(t *testing.T) {
	x := wide(3)
	m, _ := memory(t, x.c, x.full(), 1)
	start(t, m, 0, restock(id("1", 0), line(x.o, 3)))
	to(t, m, 0, "Collect")
	start(t, m, 1, save("s"))
	to(t, m, 1, "Role")
	for _, at := range []string{"Collect", "Write", "Barrier"} {
		want(t, "phase", standing(m, 0), at)
		wantBlocked(t, m, 1, api.OnRole)
		step(t, m, 0)
	}
	want(t, "On when nobody flushes", m.On(1), -1)
	wantRest(t, m, 1, phases("Role Body0", "Fence Head Switch", left(4), "Reply"), api.Reply{Id: "s"})
	run(t, m, 0)

	// What came behind the other's Collect it flushes itself.
	start(t, m, 0, restock(id("2", 0), line(x.o, 3)))
	to(t, m, 0, "Write")
	start(t, m, 2, restock(id("3", 1), line(x.p, 3)))
	to(t, m, 2, "Wait")
	start(t, m, 1, save("u"))
	to(t, m, 1, "Role")
	wantBlocked(t, m, 1, api.OnRole)
	to(t, m, 0, "Wait")
	to(t, m, 1, "Write")
	wantBlocked(t, m, 2, api.OnWater)
	want(t, "the first one's rest", run(t, m, 0), "Wait Reply")
	run(t, m, 1)
	want(t, "Durable", m.View().Durable, 3)
	run(t, m, 2)
}

// TestP14_4_SaveBeside: whoever has a lock is waited for; nobody is let in meanwhile; Reads by counters go on.
func TestP14_4_SaveBeside(t *testing.T) {
	x := wide(4)
	m, _ := memory(t, x.c, x.full(), 1)
	start(t, m, 0, restock(id("1", 2), line(x.q, 3)))
	to(t, m, 0, "Apply0")
	start(t, m, 1, save("s"))
	to(t, m, 1, "Enter2")
	wantBlocked(t, m, 1, 2)
	start(t, m, 2, restock(id("2", 0), line(x.o, 3)))
	to(t, m, 2, "Enter0")
	wantBlocked(t, m, 2, 0)
	to(t, m, 0, "Wait")
	to(t, m, 1, "Role")
	want(t, "a Read beside a Save", ask(t, m, 3, read("r", x.p)).Levels[0], level(x.p, 50, 0))
	to(t, m, 1, "Body0")
	want(t, "a Read beside a Save", ask(t, m, 3, read("r", x.q)).Levels[0], level(x.q, 53, 0))
	start(t, m, 3, save("u"))
	to(t, m, 3, "Enter0")
	wantBlocked(t, m, 3, 0)
	to(t, m, 1, "Leave0")
	wantBlocked(t, m, 2, 0)
	run(t, m, 1)
	to(t, m, 2, "Wait")
	run(t, m, 3)
	want(t, "Life", m.View().Life, 3)
	run(t, m, 0)
	run(t, m, 2)
}

// TestP14_4_SaveLives: the last life there is can't be saved from.
func TestP14_4_SaveLives(t *testing.T) {
	x := wide(1)
	for epoch, e := range map[int]api.Errno{api.MaxLife - 3: api.OK, api.MaxLife - 2: api.OK, api.MaxLife - 1: api.ErrBusy} {
		m, d := memory(t, x.c, x.full(), epoch)
		if e == api.OK {
			wantRun(t, m, 0, save("s"), saved("", 1), api.Reply{Id: "s"})
			want(t, "Life", m.View().Life, epoch+1)
			continue
		}
		wantRun(t, m, 0, save("s"), phases("Begin", entered(4), "Check", left(4), "Reply"), api.Reply{Id: "s", Err: e})
		wantPoints(t, m)
		want(t, "operations", d.Count(), 0)
		want(t, "Life", m.View().Life, epoch)
		want(t, "another kind", ask(t, m, 0, restock("1", line(x.o, 1))).Err, api.OK)
	}
}

// TestP14_4_SaveOperations: with Slot and 3 operations left, and with one less.
func TestP14_4_SaveOperations(t *testing.T) {
	x := wide(2)
	last := api.MaxOps - x.c.Slot - 3
	busy := phases("Begin", entered(4), "Check", left(4), "Reply")
	m, _ := memoryAt(t, x.c, x.full(), 1, last)
	wantRun(t, m, 0, save("s"), saved("", 1), api.Reply{Id: "s"})
	m, d := memoryAt(t, x.c, x.full(), 1, last+1)
	wantRun(t, m, 0, save("s"), busy, api.Reply{Id: "s", Err: api.ErrBusy})
	want(t, "operations", d.Count(), last+1)
	wantPoints(t, m)

	// What is promised is counted: two operations of a record.
	begin := func(operations int) *cart.Shared {
		m, _ := memoryAt(t, x.c, x.full(), 1, operations)
		start(t, m, 1, restock(id("1", 0), line(x.o, 3)))
		to(t, m, 1, "Wait")
		start(t, m, 0, save("s"))
		return m
	}
	wantRest(t, begin(last-2), 0, saved("Collect Write Barrier", 1), api.Reply{Id: "s"})
	wantRest(t, begin(last-1), 0, busy, api.Reply{Id: "s", Err: api.ErrBusy})
	// And behind its Barrier as operations that were done.
	for operations, e := range map[int]api.Errno{last - 2: api.OK, last - 1: api.ErrBusy} {
		m := begin(operations)
		run(t, m, 1)
		run(t, m, 0)
		wantReply(t, m, 0, api.Reply{Id: "s", Err: e})
	}
}

// TestP14_4_SaveOfAFullSlot: the greatest body that a slot holds: a Save does no more operations than it was let in for.
func TestP14_4_SaveOfAFullSlot(t *testing.T) {
	c := quiet(4, 20)
	s := leaving(t, c, 0)
	body, _, _ := mend.Layout(c, 1, s)
	m, d := memoryAt(t, c, s, 1, api.MaxOps-7)
	want(t, "Save", ask(t, m, 0, save("s")).Err, api.OK)
	want(t, "operations", d.Count(), api.MaxOps-7+len(body)+3)
	if _, epoch := newest(t, d, c); epoch != 2 {
		t.Errorf("epoch %d", epoch)
	}
}
