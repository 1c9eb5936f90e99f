package lin_test

import (
	"slices"
	"strconv"
	"testing"

	"larder/api"
	"larder/lin"
)

// TestP16_5_Errors: Check's error, then ErrTooLarge, then ErrState; none of the three asks for the next one.
func TestP16_5_Errors(t *testing.T) {
	answered := held("h", 0, 1)
	answered.Open = true
	for n := 9; n <= 12; n++ {
		nine := make([]api.Op, n)
		wantRefused(t, "nine ops", nine, nil, unsound(t)[1], api.ErrState, api.ErrTooLarge)
		for _, s := range append(unsound(t), five()) {
			nine[n-1] = held("h", 3, 2)
			wantRefused(t, "nine ops, one with wrong moments", nine, nil, s, api.ErrMoment, api.ErrMoment)
			nine[n-1] = answered
			wantRefused(t, "nine ops, one open and answered", nine, nil, s, api.ErrAnswered, api.ErrAnswered)
		}
	}
	many := make([]api.Op, 4096)
	if l, good, e := lin.Order(many, five()); len(l) != 0 || good || e != api.ErrTooLarge {
		t.Errorf("MaxHistory ops: %v, %v, %d", l, good, e)
	}
	for _, s := range append(unsound(t), five()) {
		wantRefused(t, "one more", make([]api.Op, 4097), nil, s, api.ErrMany, api.ErrMany)
	}
	for _, s := range unsound(t) {
		wantRefused(t, "no ops", nil, nil, s, api.ErrState, api.ErrState)
		wantRefused(t, "eight ops", make([]api.Op, 8), nil, s, api.ErrState, api.ErrState)
	}
}

// eight answers n ops one behind the other.
func eight(n int) []api.Op {
	var ops []api.Op
	for i := range n {
		ops = append(ops, looked("r"+strconv.Itoa(i), 5, 0, 2*i, 2*i+1))
	}
	return ops
}

// TestP16_5_MaxSearch: eight ops are searched, nine are not, be they Open or answered, side by side or not.
func TestP16_5_MaxSearch(t *testing.T) {
	wantOrder(t, "eight one behind the other", eight(8), five(), 0, 1, 2, 3, 4, 5, 6, 7)
	beside := eight(9)
	for i := range beside {
		beside[i].Begin, beside[i].End = 0, 9
	}
	wantOrder(t, "eight side by side", beside[:8], five(), 0, 1, 2, 3, 4, 5, 6, 7)
	opens := eight(9)
	for i := range opens {
		opens[i] = open(opens[i].Request, 0, api.MaxMoment)
	}
	wantOrder(t, "eight open ones", opens[:8], five())
	for name, ops := range map[string][]api.Op{"one behind the other": eight(9), "side by side": beside, "open": opens} {
		wantRefused(t, "nine "+name, ops, []int{-1}, api.State{}, api.ErrState, api.ErrTooLarge)
		if l, good, e := lin.Order(ops, five()); len(l) != 0 || good || e != api.ErrTooLarge {
			t.Errorf("nine %s: %v, %v, %d", name, l, good, e)
		}
		if m, bad, e := lin.Least(ops, five()); m != 0 || bad || e != api.ErrTooLarge {
			t.Errorf("nine %s: Least: %d, %v, %d", name, m, bad, e)
		}
	}
	// Clocks that no Tick has put forward: of all orders the last one alone fits.
	var back []api.Op
	for i := range 8 {
		r := tick("t"+strconv.Itoa(i), 8-i)
		back = append(back, told(r, api.Reply{Id: r.Id, Now: 8 - i}, 0, 9))
	}
	wantOrder(t, "eight that go back", back, five(), 7, 6, 5, 4, 3, 2, 1, 0)
	wantHolds(t, "eight that go back", back, []int{7, 6, 5, 4, 3, 2, 0, 1}, five(), false)
}

// TestP16_5_Least: of several orders that fit the least is told: number by number, and a beginning ahead of what it begins.
func TestP16_5_Least(t *testing.T) {
	s := five()
	free := func(id string) api.Op { return done(save(id), 0, 9) }
	wantOrder(t, "all orders fit", []api.Op{free("x"), free("y"), free("z")}, s, 0, 1, 2)
	wantOrder(t, "an open op at the end", []api.Op{free("x"), open(save("y"), 0, 9)}, s, 0)
	wantOrder(t, "an open op ahead", []api.Op{open(save("x"), 0, 9), free("y")}, s, 0, 1)
	wantOrder(t, "an open op between", []api.Op{free("x"), open(save("y"), 0, 9), free("z")}, s, 0, 1, 2)
	wantOrder(t, "open ops alone", []api.Op{open(save("x"), 0, 9), open(h("y"), 0, 9)}, s)
	wantOrder(t, "an open op that would be late", []api.Op{open(save("x"), 5, 9), done(save("y"), 0, 4), done(save("z"), 6, 7)}, s, 1, 0, 2)
	wantOrder(t, "an open op of which nobody may see", []api.Op{open(h("x"), 0, 9), looked("y", 5, 0, 0, 9), looked("z", 5, 0, 0, 9)}, s, 1, 2)
	wantOrder(t, "an open op that one sees", []api.Op{looked("y", 5, 3, 0, 9), looked("z", 5, 0, 0, 9), open(h("x"), 0, 9)}, s, 1, 2, 0)
	wantOrder(t, "one of two open ops", []api.Op{looked("y", 5, 3, 0, 9), open(h("w"), 0, 9), open(h("x"), 0, 9)}, s, 1, 0)
	// Refused, the second hold leaves all as it is: it comes as early as it may.
	wantOrder(t, "two open ops, one of which is refused", []api.Op{open(h("w"), 0, 9), open(h("x"), 0, 9), looked("y", 5, 3, 0, 9)}, s, 0, 1, 2)
	wantOrder(t, "the other one's effect", []api.Op{open(h("w"), 0, 9), open(h("x"), 0, 9), done(commit("c", "x"), 0, 9)}, s, 1, 0, 2)
}

// TestP16_5_None: histories that no ledger has given.
func TestP16_5_None(t *testing.T) {
	s := five()
	for name, ops := range map[string][]api.Op{
		"sold twice":               {held("h", 0, 9), held("i", 0, 9)},
		"sold twice, in turn":      {held("h", 0, 1), held("i", 2, 3)},
		"seen too early":           {looked("r", 5, 3, 0, 1), held("h", 2, 3)},
		"seen too late":            {held("h", 0, 1), looked("r", 5, 0, 2, 3)},
		"seen and not seen":        {open(h("h"), 0, ever), looked("r", 5, 3, 1, 2), looked("r", 5, 0, 3, 4)},
		"behind a crash":           {open(h("h"), 0, 4), looked("r", 5, 0, 5, 6), looked("r", 5, 3, 7, 8)},
		"seen ahead of the asking": {open(h("h"), 4, ever), looked("r", 5, 3, 1, 3)},
		"a wrong reply":            {told(h("h"), api.Reply{Id: "h", Now: 11}, 0, 1)},
		"two Reads cross":          {open(restock("x", line("a", 1)), 0, ever), open(h("y"), 0, ever), looked("r", 6, 0, 1, 2), looked("r", 5, 3, 1, 2)},
		"an effect twice":          {done(restock("x", line("a", 1)), 0, 1), done(restock("x", line("a", 1)), 2, 3), looked("r", 7, 0, 4, 5)},
		"told ErrBusy":             {no(h("h"), api.ErrBusy, 0, 1)},
	} {
		wantNone(t, name, ops, s)
	}
}

// TestP16_5_Touching: two ops that touch at one moment have either order.
func TestP16_5_Touching(t *testing.T) {
	s := five()
	wantOrder(t, "in turn", []api.Op{held("h", 0, 2), no(h("i"), api.ErrStock, 2, 4)}, s, 0, 1)
	wantOrder(t, "the other way round", []api.Op{no(h("h"), api.ErrStock, 0, 2), held("i", 2, 4)}, s, 1, 0)
	wantNone(t, "apart", []api.Op{no(h("h"), api.ErrStock, 0, 2), held("i", 3, 4)}, s)
	wantOrder(t, "cut off and asked at one moment", []api.Op{looked("r", 5, 0, 4, 5), open(h("h"), 0, 4), looked("r", 5, 3, 6, 7)}, s, 0, 1, 2)
	wantNone(t, "cut off and asked later", []api.Op{looked("r", 5, 0, 5, 6), open(h("h"), 0, 4), looked("r", 5, 3, 7, 8)}, s)
}

// TestP16_5_Heavy: eight ops side by side of which one is wrong in every order, on a ledger that remembers as much as it has room for.
func TestP16_5_Heavy(t *testing.T) {
	s := api.State{Room: api.MaxRoom, Lsn: 1800, Levels: []api.Level{{Code: "a", OnHand: 1800}}}
	for i := range 1800 {
		s.Done = append(s.Done, api.Done{Request: restock("id"+strconv.Itoa(10000+i), line("a", 1))})
	}
	var ops []api.Op
	for i := range 8 {
		ops = append(ops, done(restock("x"+strconv.Itoa(i), line("a", 1)), 0, 9))
	}
	wantOrder(t, "all right", ops, s, 0, 1, 2, 3, 4, 5, 6, 7)
	ops[7].Reply.Now = 1
	wantNone(t, "one wrong", ops, s)
	wantLeast(t, "one wrong", ops, s, 9, true)
}

// TestP16_9_Rounds: Order's order Holds, and none that is less; where Order says false none of Rounds does.
func TestP16_9_Rounds(t *testing.T) {
	d := drawerOf(t, 9)
	for range 400 {
		start := d.start()
		ops, drawn := d.history(start, 1+d.r.Intn(6))
		for _, list := range [][]api.Op{ops, d.spoilt(ops)} {
			order, good, e := lin.Order(list, start)
			if e != api.OK {
				t.Fatalf("Order: %d", e)
			}
			if is, _ := lin.Holds(list, order, start); good && !is {
				t.Fatalf("Order(%s): %v, which does not hold", show(list), order)
			}
			if is, _ := lin.Holds(list, drawn, start); is && (!good || slices.Compare(order, drawn) > 0) {
				t.Fatalf("Order(%s): %v, %v; %v holds", show(list), order, good, drawn)
			}
			for other := range lin.Rounds(list) {
				is, _ := lin.Holds(list, other, start)
				if is && !good || is && slices.Compare(order, other) > 0 {
					t.Fatalf("Order(%s): %v, %v; %v holds", show(list), order, good, other)
				}
				d.count(is, "holds")
				d.count(!is, "does not hold")
			}
			d.count(good, "found")
			d.count(!good, "not found")
		}
	}
	d.wantTally(map[string]int{"holds": 1000, "does not hold": 1000, "found": 400, "not found": 100})
}
