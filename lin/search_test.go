package lin_test

import (
	"slices"
	"testing"

	"larder/api"
	"larder/lin"
)

// wantLikeSearch holds Rounds, Holds, Final, Order and Least against the test's own search.
func (d *drawer) wantLikeSearch(ops []api.Op, start api.State) {
	d.t.Helper()
	orders := ordersOf(ops)
	if got := slices.Collect(lin.Rounds(ops)); !slices.EqualFunc(got, orders, slices.Equal[[]int]) {
		d.t.Errorf("Rounds(%s): %v, want %v", show(ops), got, orders)
	}
	fitting := 0
	for _, order := range orders {
		last, good := fits(d.t, ops, order, start)
		if got, e := lin.Holds(ops, order, start); got != good || e != api.OK {
			d.t.Errorf("Holds(%s, %v): %v, %d, want %v", show(ops), order, got, e, good)
		}
		e := api.OK
		if !good {
			e = api.ErrOrder
		} else {
			fitting++
		}
		if s, got := lin.Final(ops, order, start); got != e || !sameState(s, last) {
			d.t.Errorf("Final(%s, %v): %s, %d, want %s, %d", show(ops), order, show(s), got, show(last), e)
		}
	}
	order, good := leastOf(d.t, ops, orders, start)
	if got, is, e := lin.Order(ops, start); !slices.Equal(got, order) || is != good || e != api.OK {
		d.t.Errorf("Order(%s): %v, %v, %d, want %v, %v", show(ops), got, is, e, order, good)
	}
	d.count(good, "an order fits")
	d.count(!good, "none fits")
	d.count(fitting > 1, "several fit")
	d.count(good && !slices.IsSorted(order), "one that goes back fits")
	d.count(good && len(order) < len(ops), "an op is left out")
	d.count(good && fitting < len(orders), "some fit, some do not")
	d.wantLeast(ops, start, good)
}

// wantLeast holds Least against the test's own search at every moment at which anything could come.
func (d *drawer) wantLeast(ops []api.Op, start api.State, good bool) {
	d.t.Helper()
	moment, bad := 0, false
	for _, m := range momentsOf(ops) {
		seen := seenBy(ops, m)
		if _, is := leastOf(d.t, seen, ordersOf(seen), start); !is {
			moment, bad = m, true
			break
		}
	}
	if bad == good {
		d.t.Fatalf("%s goes wrong: %v; has an order: %v", show(ops), bad, good)
	}
	if m, is, e := lin.Least(ops, start); m != moment || is != bad || e != api.OK {
		d.t.Errorf("Least(%s): %d, %v, %d, want %d, %v", show(ops), m, is, e, moment, bad)
	}
	d.count(bad && moment == 0, "wrong at moment 0")
	d.count(bad && moment > 0, "wrong later")
}

// momentsOf answers the moments below, at and above each Begin and End, rising, and those at the ends.
func momentsOf(ops []api.Op) []int {
	l := []int{least, -1, 0, api.MaxMoment, greatest}
	for _, o := range ops {
		l = append(l, o.Begin-1, o.Begin, o.Begin+1, o.End-1, o.End, o.End+1)
	}
	slices.Sort(l)
	return slices.Compact(l)
}

// seenBy is Until by the document's words.
func seenBy(ops []api.Op, moment int) []api.Op {
	var l []api.Op
	for _, o := range ops {
		switch {
		case o.Begin > moment:
		case !o.Open && o.End <= moment:
			l = append(l, o)
		case o.Open && o.End <= moment:
			l = append(l, api.Op{Request: o.Request, Begin: o.Begin, End: o.End, Open: true})
		default:
			l = append(l, api.Op{Request: o.Request, Begin: o.Begin, End: api.MaxMoment, Open: true})
		}
	}
	return l
}

// TestP16_5_Search: many small histories, as a service has answered them and with a reply in which a field is wrong, held against a search over all orders.
func TestP16_5_Search(t *testing.T) {
	d := drawerOf(t, 16)
	for i := range 1600 {
		start := d.start()
		ops, order := d.history(start, []int{0, 1, 2, 3, 4, 4, 5, 5}[d.r.Intn(8)])
		if _, good := fits(t, ops, order, start); !good || !isOrder(ops, order) {
			t.Fatalf("the drawn history has not its order %v: %s", order, show(ops))
		}
		for _, o := range ops {
			d.count(o.Open, "open")
			d.count(!o.Open, "told")
			d.count(!o.Open && o.Reply.Err != api.OK, "refused")
			d.count(!o.Open && o.Reply.Err == api.ErrFull, "told ErrFull")
			d.count(!o.Open && o.Reply.Err == api.ErrEnd, "told ErrEnd")
		}
		d.wantLikeSearch(ops, start)
		d.wantLikeSearch(d.spoilt(ops), start)
		if i%2 == 0 {
			d.wantLikeSearch(d.spoilt(ops), start)
			d.wantLikeSearch(ops, d.start())
		}
		if t.Failed() {
			t.Fatalf("history %d, start %s", i, show(start))
		}
	}
	t.Log(d.tally)
	d.wantTally(map[string]int{
		"an order fits": 1500, "none fits": 500, "several fit": 500, "one that goes back fits": 100, "an op is left out": 300, "some fit, some do not": 200,
		"wrong at moment 0": 30, "wrong later": 300, "open": 500, "told": 1500, "refused": 200, "told ErrFull": 10, "told ErrEnd": 10,
		"cut off, with its point": 50, "cut off, without": 50,
	})
}

// TestP16_5_SearchOfSeven: the same of some histories of six and seven ops.
func TestP16_5_SearchOfSeven(t *testing.T) {
	d := drawerOf(t, 77)
	for i := range 30 {
		start := d.start()
		ops, _ := d.history(start, 6+i%2)
		orders := ordersOf(ops)
		for _, list := range [][]api.Op{ops, d.spoilt(ops)} {
			order, good := leastOf(t, list, orders, start)
			if got, is, e := lin.Order(list, start); !slices.Equal(got, order) || is != good || e != api.OK {
				t.Fatalf("Order(%s): %v, %v, %d, want %v, %v", show(list), got, is, e, order, good)
			}
			d.count(good, "an order fits")
			d.count(!good, "none fits")
		}
	}
	t.Log(d.tally)
	d.wantTally(map[string]int{"an order fits": 20, "none fits": 5})
}

// TestP16_5_AllSideBySide: ops of which no two are one behind the other, so that all orders are tried; what they come to hangs on the order.
func TestP16_5_AllSideBySide(t *testing.T) {
	d := drawerOf(t, 99)
	for range 300 {
		start := d.start()
		l := ledgerOf(t, start)
		var ops []api.Op
		n := 2 + d.r.Intn(4)
		for i := range n {
			r := d.request(i)
			ops = append(ops, told(r, l.Do(r), 0, 1+d.r.Intn(2)))
		}
		ops, _ = d.shuffled(ops, nil)
		for i := range ops {
			if d.r.Intn(3) == 0 {
				ops[i] = open(ops[i].Request, ops[i].Begin, []int{2, api.MaxMoment}[d.r.Intn(2)])
			}
		}
		d.wantLikeSearch(ops, start)
		d.wantLikeSearch(d.spoilt(ops), start)
	}
	t.Log(d.tally)
	d.wantTally(map[string]int{"an order fits": 300, "none fits": 100, "several fit": 100, "one that goes back fits": 25, "some fit, some do not": 80})
}

// TestP16_5_Clock: sets of ops that come to other states by the order in which they are done: none may be taken for another.
func TestP16_5_Clock(t *testing.T) {
	s := behind(t, empty(), restock("0", line("a", 9)), hold("h", 9, line("a", 1)))
	set := []api.Request{tick("t", 3), hold("i", 4, line("a", 2)), extend("e", "h", 5), tick("u", 6)}
	lists(len(set), func(list []int) {
		if len(list) < len(set) {
			return
		}
		l := ledgerOf(t, s)
		ops := make([]api.Op, len(set))
		for _, i := range list {
			ops[i] = told(set[i], l.Do(set[i]), 0, 9)
		}
		// Nobody was told of the four; one that asks for the holds behind them tells them apart.
		for _, last := range []api.Request{read("r", "a"), commit("c", "h"), commit("c", "i"), extend("f", "h", 7), extend("f", "i", 7)} {
			all := append(slices.Clone(ops), told(last, ledgerOf(t, l.State()).Do(last), 10, 11))
			order, good := leastOf(t, all, ordersOf(all), s)
			if !good {
				t.Fatalf("no order: %s", show(all))
			}
			wantOrder(t, "told", all, s, order...)
			for i := range ops {
				all[i] = open(set[i], 0, 9)
			}
			order, good = leastOf(t, all, ordersOf(all), s)
			if !good {
				t.Fatalf("no order: %s", show(all))
			}
			wantOrder(t, "open", all, s, order...)
		}
	})
}

// TestP16_5_ToldApart: the same ops come by one order to another state than by another, in one thing alone; what is tried behind one of them says nothing of the other.
func TestP16_5_ToldApart(t *testing.T) {
	day := api.KeptFor
	goods := behind(t, empty(), restock("0", line("a", 9), line("b", 9)))
	kept := behind(t, goods, hold("h", 4, line("a", 1)))
	clock := behind(t, goods, tick("c", 5))
	last := goods
	last.Lsn = api.MaxLsn - 4
	x, y := restock("x", line("a", 1)), restock("y", line("b", 1))
	ticked := func(r api.Request, now, begin, end int) api.Op {
		return told(r, api.Reply{Id: r.Id, Now: now}, begin, end)
	}
	for name, c := range map[string]struct {
		start api.State
		ops   []api.Op
		order []int
	}{
		"a deadline": {kept, []api.Op{
			ticked(extend("e", "h", 5), 5, 0, 1), ticked(extend("f", "h", 9), 9, 0, 1), ticked(tick("t", 7), 7, 2, 3), no(commit("g", "h"), api.ErrNoHold, 4, 5),
		}, []int{1, 0, 2, 3}},
		"when it was done": {goods, []api.Op{
			done(x, 0, 1), ticked(tick("t", 5), 5, 0, 1), ticked(tick("u", day+2), day+2, 2, 3), no(restock("x", line("b", 1)), api.ErrOther, 4, 5),
		}, []int{1, 0, 2, 3}},
		"what was done": {clock, []api.Op{
			open(tick("x", 0), 0, 1), open(tick("x", 1), 0, 1), ticked(tick("x", 1), 5, 2, 3),
		}, []int{1, 0, 2}},
		"a hold's lines": {goods, []api.Op{
			open(hold("x", 2*day, line("a", 1)), 0, 3), open(hold("x", 2*day, line("a", 2)), 0, 3), open(hold("y", 2*day, line("a", 1)), 0, 3), open(hold("y", 2*day, line("a", 2)), 0, 3),
			ticked(tick("t", day), day, 4, 5), done(commit("c", "x"), 6, 7), looked("r", 7, 1, 8, 9),
		}, []int{1, 0, 2, 3, 4, 5, 6}},
		"levels": {goods, []api.Op{
			done(x, 0, 1), done(y, 0, 1), done(y, 0, 9), done(x, 0, 9), ticked(tick("t", day), day, 2, 9), ticked(tick("u", 2*day), 2*day, 10, 11), looked("r", 10, 0, 12, 13),
		}, []int{0, 1, 2, 3, 4, 5, 6}},
		"levels, turned": {goods, []api.Op{
			done(x, 0, 1), done(y, 0, 1), done(y, 0, 9), done(x, 0, 9), ticked(tick("t", day), day, 2, 9), ticked(tick("u", 2*day), 2*day, 10, 11),
			told(read("r", "a", "b"), api.Reply{Id: "r", Levels: []api.Level{{Code: "a", OnHand: 10}, {Code: "b", OnHand: 11}}}, 12, 13),
		}, []int{0, 1, 3, 4, 2, 5, 6}},
		"how many effects": {last, []api.Op{
			ticked(tick("t", 0), 0, 0, 1), open(tick("t", 0), 0, 9), ticked(tick("u", day), day, 0, 9), ticked(tick("v", 2*day), 2*day, 0, 9), no(x, api.ErrEnd, 10, 11),
		}, []int{0, 2, 1, 3, 4}},
	} {
		if order, good := leastOf(t, c.ops, ordersOf(c.ops), c.start); !good || !slices.Equal(order, c.order) {
			t.Errorf("%s: the least order is %v, %v", name, order, good)
		}
		wantOrder(t, name, c.ops, c.start, c.order...)
	}
}
