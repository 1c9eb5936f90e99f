package lin_test

import (
	"slices"
	"testing"

	"larder/api"
	"larder/lin"
)

// TestP16_10_EveryMoment: a history that has an order that fits has one at every moment: the first ones of that order are one, as far as they were asked, if nobody behind has answered yet.
func TestP16_10_EveryMoment(t *testing.T) {
	d := drawerOf(t, 10)
	for range 500 {
		start := d.start()
		ops, _ := d.history(start, 1+d.r.Intn(8))
		if _, good, e := lin.Order(ops, start); !good || e != api.OK {
			t.Fatalf("Order(%s): %v, %d", show(ops), good, e)
		}
		wantLeast(t, "a history that has an order", ops, start, 0, false)
		for _, m := range momentsOf(ops) {
			seen := lin.Until(ops, m)
			order, good, e := lin.Order(seen, start)
			if !good || e != api.OK {
				t.Fatalf("Order(%s): %v, %d, at %d of %s", show(seen), good, e, m, show(ops))
			}
			wantHolds(t, "at a moment", seen, order, start, true)
			d.count(len(seen) > 0 && len(seen) < len(ops), "some were seen")
		}
		// A history that goes wrong stays so.
		bad := d.spoilt(ops)
		at, is, _ := lin.Least(bad, start)
		for _, m := range momentsOf(bad) {
			if _, good, _ := lin.Order(lin.Until(bad, m), start); good != (!is || m < at) {
				t.Fatalf("Least(%s): %d, %v; at %d there is an order: %v", show(bad), at, is, m, good)
			}
		}
		d.count(is, "goes wrong")
	}
	d.wantTally(map[string]int{"some were seen": 1000, "goes wrong": 100})
}

// without answers ops without one, and the order with the numbers that the others have then.
func without(ops []api.Op, order []int, out int) ([]api.Op, []int) {
	ops = slices.Delete(slices.Clone(ops), out, out+1)
	order = slices.Clone(order)
	for at, i := range order {
		if i > out {
			order[at]--
		}
	}
	return ops, order
}

// TestP16_10_OpenTakenOut: an Open op that an order has not is taken out: the order is left.
func TestP16_10_OpenTakenOut(t *testing.T) {
	d := drawerOf(t, 101)
	for range 400 {
		start := d.start()
		ops, drawn := d.history(start, 1+d.r.Intn(8))
		found, _, _ := lin.Order(ops, start)
		for _, order := range [][]int{drawn, found} {
			for i, o := range ops {
				if !o.Open || slices.Contains(order, i) {
					continue
				}
				left, rest := without(ops, order, i)
				wantHolds(t, "an Open op taken out", left, rest, start, true)
				if l, good, e := lin.Order(left, start); !good || e != api.OK || slices.Compare(l, rest) > 0 {
					t.Fatalf("Order(%s): %v, %v, %d; %v holds", show(left), l, good, e, rest)
				}
				d.count(true, "taken out")
			}
		}
	}
	d.wantTally(map[string]int{"taken out": 200})
}

// TestP16_10_Wider: Ends are made later and Begins earlier: every order that fitted fits.
func TestP16_10_Wider(t *testing.T) {
	d := drawerOf(t, 102)
	for range 300 {
		start := d.start()
		ops, _ := d.history(start, 1+d.r.Intn(5))
		fitting := slices.DeleteFunc(slices.Collect(lin.Rounds(ops)), func(order []int) bool {
			good, _ := lin.Holds(ops, order, start)
			return !good
		})
		for range 4 {
			wide := slices.Clone(ops)
			for i := range wide {
				wide[i].Begin -= d.r.Intn(wide[i].Begin + 1)
				wide[i].End += d.r.Intn(min(6, api.MaxMoment-wide[i].End+1))
				if d.r.Intn(8) == 0 {
					wide[i].End = api.MaxMoment
				}
			}
			wantCheck(t, "a wider history", wide, api.OK, 0)
			for _, order := range fitting {
				wantHolds(t, "a wider history", wide, order, start, true)
				d.count(true, "fits still")
			}
			d.count(count(wide) > count(ops), "there are more orders")
		}
	}
	d.wantTally(map[string]int{"fits still": 2000, "there are more orders": 200})
}

// around lays moments around requests that a ledger did one behind the other: each is asked ahead of being done, and answered behind it.
func (d *drawer) around(ops []api.Op) []api.Op {
	ops = slices.Clone(ops)
	for i := range ops {
		point := 10 + 3*i
		ops[i].Begin = point - d.r.Intn(9)
		ops[i].End = point + d.r.Intn(9)
	}
	return ops
}

// TestP16_11_InTurn: requests that a ledger did one behind the other, asked and answered at moments around these, have the order in which they were done.
func TestP16_11_InTurn(t *testing.T) {
	d := drawerOf(t, 11)
	for range 300 {
		start := d.start()
		var list []api.Request
		for i := range d.r.Intn(30) {
			list = append(list, d.request(i))
		}
		ops := d.around(inTurn(t, start, list))
		order := rising(len(ops))
		wantHolds(t, "in turn", ops, order, start, true)
		if s, e := lin.Final(ops, order, start); e != api.OK || !sameState(s, behind(t, start, list...)) {
			t.Fatalf("Final(%s): %s, %d", show(ops), show(s), e)
		}
		few := ops[:min(len(ops), api.MaxSearch)]
		if l, good, e := lin.Order(few, start); !good || e != api.OK || slices.Compare(l, rising(len(few))) > 0 {
			t.Fatalf("Order(%s): %v, %v, %d", show(few), l, good, e)
		}
		wantLeast(t, "in turn", few, start, 0, false)
		d.count(count(few) > 1, "more orders than one")
	}
	d.wantTally(map[string]int{"more orders than one": 150})
}

// TestP16_11_MaxHistory: the same of as many as a history may have, in any list.
func TestP16_11_MaxHistory(t *testing.T) {
	d := drawerOf(t, 12)
	start := behind(t, api.State{Room: api.MaxRoom, Levels: empty().Levels}, restock("0", line("a", 50), line("b", 50)))
	var list []api.Request
	for i := range api.MaxHistory {
		r := d.request(i)
		if r.Kind == api.KindTick {
			r.Now = i
		}
		list = append(list, r)
	}
	ops := d.around(inTurn(t, start, list))
	place := d.r.Perm(len(ops))
	laid := make([]api.Op, len(ops))
	for i, o := range ops {
		laid[place[i]] = o
	}
	wantHolds(t, "in turn", ops, rising(len(ops)), start, true)
	wantHolds(t, "in any list", laid, place, start, true)
	if s, e := lin.Final(laid, place, start); e != api.OK || !sameState(s, behind(t, start, list...)) {
		t.Errorf("Final: %s, %d", show(s), e)
	}
}
