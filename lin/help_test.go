package lin_test

import (
	"fmt"
	"math"
	"slices"
	"testing"

	"larder/api"
	"larder/lin"
	"larder/stock"
)

const (
	greatest = math.MaxInt
	least    = math.MinInt
	ever     = 4611686018427387904 // the document's MaxMoment
)

func want[T comparable](t *testing.T, name string, got, want T) {
	t.Helper()
	if got != want {
		t.Errorf("%s: %v, want %v", name, got, want)
	}
}

// show answers a thing in words, as many of them as one can read.
func show(v any) string { return fmt.Sprintf("%.2000s", fmt.Sprintf("%+v", v)) }

// Requests, short.

func line(code string, qty int) api.Line { return api.Line{Code: code, Qty: qty} }

func restock(id string, l ...api.Line) api.Request {
	return api.Request{Id: id, Kind: api.KindRestock, Lines: l}
}

func writeoff(id string, l ...api.Line) api.Request {
	return api.Request{Id: id, Kind: api.KindWriteoff, Lines: l}
}

func hold(id string, ttl int, l ...api.Line) api.Request {
	return api.Request{Id: id, Kind: api.KindHold, Lines: l, Ttl: ttl}
}

func commit(id, name string) api.Request {
	return api.Request{Id: id, Kind: api.KindCommit, Hold: name}
}

func release(id, name string) api.Request {
	return api.Request{Id: id, Kind: api.KindRelease, Hold: name}
}

func extend(id, name string, ttl int) api.Request {
	return api.Request{Id: id, Kind: api.KindExtend, Hold: name, Ttl: ttl}
}

func read(id string, codes ...string) api.Request {
	r := api.Request{Id: id, Kind: api.KindRead}
	for _, code := range codes {
		r.Lines = append(r.Lines, line(code, 0))
	}
	return r
}

func tick(id string, now int) api.Request {
	return api.Request{Id: id, Kind: api.KindTick, Now: now}
}

func save(id string) api.Request { return api.Request{Id: id, Kind: api.KindSave} }

// Ops, short.

// told is an op that was answered.
func told(r api.Request, x api.Reply, begin, end int) api.Op {
	return api.Op{Request: r, Reply: x, Begin: begin, End: end}
}

// done is an op that was answered OK, with no more to tell.
func done(r api.Request, begin, end int) api.Op { return told(r, api.Reply{Id: r.Id}, begin, end) }

// no is an op that was refused.
func no(r api.Request, e api.Errno, begin, end int) api.Op {
	return told(r, api.Reply{Id: r.Id, Err: e}, begin, end)
}

// open is an op whose answer nobody has seen.
func open(r api.Request, begin, end int) api.Op {
	return api.Op{Request: r, Begin: begin, End: end, Open: true}
}

// h is the Hold of the document's examples, and held its op with the reply OK(id).
func h(id string) api.Request { return hold(id, 10, line("a", 3)) }

func held(id string, begin, end int) api.Op {
	return told(h(id), api.Reply{Id: id, Now: 10}, begin, end)
}

// looked is a Read of a that saw these levels.
func looked(id string, onHand, held, begin, end int) api.Op {
	return told(read(id, "a"), api.Reply{Id: id, Levels: []api.Level{{Code: "a", OnHand: onHand, Held: held}}}, begin, end)
}

// States.

// five is the state of the document's examples.
func five() api.State {
	return api.State{Room: 10000, Levels: []api.Level{{Code: "a", OnHand: 5}}}
}

func ledgerOf(t *testing.T, s api.State) *stock.Ledger {
	t.Helper()
	l, e := stock.From(s)
	if e != api.OK {
		t.Fatalf("not sound: %s", show(s))
	}
	return l
}

// behind answers the state of a ledger that has done all of a list.
func behind(t *testing.T, s api.State, list ...api.Request) api.State {
	t.Helper()
	l := ledgerOf(t, s)
	for _, r := range list {
		l.Do(r)
	}
	return l.State()
}

// Things are held against each other, nil and empty lists alike.

func sameState(s, u api.State) bool {
	return s.Room == u.Room && s.Lsn == u.Lsn && s.Now == u.Now && slices.Equal(s.Levels, u.Levels) &&
		slices.EqualFunc(s.Holds, u.Holds, sameHold) && slices.EqualFunc(s.Done, u.Done, sameDone)
}

func sameHold(h, k api.Held) bool {
	return h.Id == k.Id && h.Deadline == k.Deadline && slices.Equal(h.Lines, k.Lines)
}

func sameDone(d, e api.Done) bool { return d.At == e.At && sameRequest(d.Request, e.Request) }

func sameRequest(r, q api.Request) bool {
	return r.Id == q.Id && r.Kind == q.Kind && slices.Equal(r.Lines, q.Lines) && r.Hold == q.Hold && r.Ttl == q.Ttl && r.Now == q.Now
}

func sameReply(x, y api.Reply) bool {
	return x.Id == y.Id && x.Err == y.Err && x.Line == y.Line && slices.Equal(x.Levels, y.Levels) && x.Now == y.Now
}

func sameOp(o, p api.Op) bool {
	return sameRequest(o.Request, p.Request) && sameReply(o.Reply, p.Reply) && o.Begin == p.Begin && o.End == p.End && o.Open == p.Open
}

func sameOps(l, m []api.Op) bool { return slices.EqualFunc(l, m, sameOp) }

// copyOps answers ops that share no memory with those that it is given.
func copyOps(l []api.Op) []api.Op {
	var m []api.Op
	for _, o := range l {
		o.Request.Lines = append([]api.Line(nil), o.Request.Lines...)
		o.Reply.Levels = append([]api.Level(nil), o.Reply.Levels...)
		m = append(m, o)
	}
	return m
}

// A search of the test's own, by the document's words: all lists of numbers, of which those are taken that are orders, and fit.

// lists goes over all lists of numbers below n, none twice, least first.
func lists(n int, look func([]int)) {
	var list []int
	var on func()
	on = func() {
		look(list)
		for i := range n {
			if !slices.Contains(list, i) {
				list = append(list, i)
				on()
				list = list[:len(list)-1]
			}
		}
	}
	on()
}

// isOrder says whether a list is an order of ops.
func isOrder(ops []api.Op, list []int) bool {
	for at, i := range list {
		if i < 0 || i >= len(ops) || slices.Contains(list[:at], i) {
			return false
		}
		for _, j := range list[:at] {
			if ops[i].End < ops[j].Begin {
				return false
			}
		}
	}
	for i, o := range ops {
		if !o.Open && !slices.Contains(list, i) {
			return false
		}
	}
	return true
}

// fits says whether an order fits, and how its ledger stands behind it.
func fits(t *testing.T, ops []api.Op, order []int, start api.State) (api.State, bool) {
	t.Helper()
	l := ledgerOf(t, start)
	for _, i := range order {
		if x := l.Do(ops[i].Request); !ops[i].Open && !sameReply(x, ops[i].Reply) {
			return api.State{}, false
		}
	}
	return l.State(), true
}

// ordersOf answers all orders of ops, least first.
func ordersOf(ops []api.Op) [][]int {
	var all [][]int
	lists(len(ops), func(list []int) {
		if isOrder(ops, list) {
			all = append(all, slices.Clone(list))
		}
	})
	return all
}

// leastOf answers the first order of a list that fits.
func leastOf(t *testing.T, ops []api.Op, orders [][]int, start api.State) ([]int, bool) {
	t.Helper()
	for _, order := range orders {
		if _, good := fits(t, ops, order, start); good {
			return order, true
		}
	}
	return nil, false
}

// What calls answer is asked, with all results.

func wantCheck(t *testing.T, name string, ops []api.Op, e api.Errno, at int) {
	t.Helper()
	if got, i := lin.Check(ops); got != e || i != at {
		t.Errorf("%s: Check: %d, %d, want %d, %d", name, got, i, e, at)
	}
}

func wantHolds(t *testing.T, name string, ops []api.Op, order []int, start api.State, good bool) {
	t.Helper()
	if got, e := lin.Holds(ops, order, start); got != good || e != api.OK {
		t.Errorf("%s: Holds(%v): %v, %d, want %v", name, order, got, e, good)
	}
	s, e := lin.Final(ops, order, start)
	if !good && (e != api.ErrOrder || !sameState(s, api.State{})) {
		t.Errorf("%s: Final(%v): %s, %d, want ErrOrder", name, order, show(s), e)
	}
	if good {
		if last, _ := fits(t, ops, order, start); e != api.OK || !sameState(s, last) {
			t.Errorf("%s: Final(%v): %s, %d, want %s", name, order, show(s), e, show(last))
		}
	}
}

func wantOrder(t *testing.T, name string, ops []api.Op, start api.State, order ...int) {
	t.Helper()
	if got, good, e := lin.Order(ops, start); !slices.Equal(got, order) || !good || e != api.OK {
		t.Errorf("%s: Order: %v, %v, %d, want %v", name, got, good, e, order)
	}
}

func wantNone(t *testing.T, name string, ops []api.Op, start api.State) {
	t.Helper()
	if got, good, e := lin.Order(ops, start); len(got) != 0 || good || e != api.OK {
		t.Errorf("%s: Order: %v, %v, %d, want none", name, got, good, e)
	}
}

func wantLeast(t *testing.T, name string, ops []api.Op, start api.State, moment int, bad bool) {
	t.Helper()
	if got, is, e := lin.Least(ops, start); got != moment || is != bad || e != api.OK {
		t.Errorf("%s: Least: %d, %v, %d, want %d, %v", name, got, is, e, moment, bad)
	}
}

func wantUntil(t *testing.T, name string, ops []api.Op, moment int, seen ...api.Op) {
	t.Helper()
	if got := lin.Until(ops, moment); !sameOps(got, seen) {
		t.Errorf("%s: Until(%d): %s, want %s", name, moment, show(got), show(seen))
	}
}

func wantRounds(t *testing.T, name string, ops []api.Op, orders ...[]int) {
	t.Helper()
	if got := slices.Collect(lin.Rounds(ops)); !slices.EqualFunc(got, orders, slices.Equal[[]int]) {
		t.Errorf("%s: Rounds: %v, want %v", name, got, orders)
	}
}

// wantRefused asks for an error of all calls that tell it, with zeros beside it. searched is the error of those that search.
func wantRefused(t *testing.T, name string, ops []api.Op, order []int, start api.State, e, searched api.Errno) {
	t.Helper()
	if good, got := lin.Holds(ops, order, start); good || got != e {
		t.Errorf("%s: Holds: %v, %d, want %d", name, good, got, e)
	}
	if s, got := lin.Final(ops, order, start); !sameState(s, api.State{}) || got != e {
		t.Errorf("%s: Final: %s, %d, want %d", name, show(s), got, e)
	}
	if l, good, got := lin.Order(ops, start); len(l) != 0 || good || got != searched {
		t.Errorf("%s: Order: %v, %v, %d, want %d", name, l, good, got, searched)
	}
	if m, bad, got := lin.Least(ops, start); m != 0 || bad || got != searched {
		t.Errorf("%s: Least: %d, %v, %d, want %d", name, m, bad, got, searched)
	}
}
