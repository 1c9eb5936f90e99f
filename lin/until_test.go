package lin_test

import (
	"testing"

	"larder/api"
	"larder/lin"
)

// TestP16_6_Moments: an op that is answered, one that a crash cut off and one that none did, just below, at and above their Begin and End.
func TestP16_6_Moments(t *testing.T) {
	answered := held("h", 3, 7)
	cut := open(h("i"), 3, 7)
	still := open(h("k"), 3, ever)
	waits := func(o api.Op) api.Op {
		o.Reply, o.Open, o.End = api.Reply{}, true, ever
		return o
	}
	for _, x := range []struct {
		moment int
		seen   []api.Op
	}{
		{least, nil}, {-1, nil}, {0, nil}, {2, nil},
		{3, []api.Op{waits(answered), waits(cut), still}},
		{4, []api.Op{waits(answered), waits(cut), still}},
		{6, []api.Op{waits(answered), waits(cut), still}},
		{7, []api.Op{answered, cut, still}},
		{8, []api.Op{answered, cut, still}},
		{ever - 1, []api.Op{answered, cut, still}},
		{ever, []api.Op{answered, cut, still}},
		{ever + 1, []api.Op{answered, cut, still}},
		{greatest, []api.Op{answered, cut, still}},
	} {
		wantUntil(t, "all three", []api.Op{answered, cut, still}, x.moment, x.seen...)
		for i, o := range []api.Op{answered, cut, still} {
			var alone []api.Op
			if len(x.seen) > 0 {
				alone = x.seen[i : i+1]
			}
			wantUntil(t, "one alone", []api.Op{o}, x.moment, alone...)
		}
	}
	// At moment 0, and at MaxMoment.
	first := held("f", 0, 0)
	last := held("l", ever, ever)
	wantUntil(t, "below 0", []api.Op{first, last}, -1)
	wantUntil(t, "0", []api.Op{first, last}, 0, first)
	wantUntil(t, "ahead of the last", []api.Op{first, last}, ever-1, first)
	wantUntil(t, "the last", []api.Op{first, last}, ever, first, last)
	long := held("m", 0, ever)
	wantUntil(t, "ahead of its end", []api.Op{long}, ever-1, waits(long))
	wantUntil(t, "at its end", []api.Op{long}, ever, long)
}

// TestP16_6_InTurn: those that are left stand in the order in which they stood, each with its whole request.
func TestP16_6_InTurn(t *testing.T) {
	rs := []api.Request{restock("1", line("b", 2), line("a", 1), line("b", 1)), extend("e", "h", 9), tick("t", 8), {Id: "\x00", Kind: -3, Lines: []api.Line{line("", least)}, Hold: "x", Ttl: -1, Now: greatest}, {}}
	var ops, seen []api.Op
	for i, begin := range []int{5, 2, 9, 2, 0} {
		o := told(rs[i], api.Reply{Id: "x", Err: -1, Line: 4, Levels: []api.Level{{Code: "q", OnHand: -1}}, Now: 7}, begin, begin+2)
		ops = append(ops, o)
		switch {
		case begin+2 <= 4:
			seen = append(seen, o)
		case begin <= 4:
			seen = append(seen, open(rs[i], begin, ever))
		}
	}
	wantUntil(t, "some", ops, 4, seen...)
	wantUntil(t, "all", ops, 11, ops...)
	wantUntil(t, "no ops", nil, 4)
	wantUntil(t, "an empty list", []api.Op{}, 4)
}

// TestP16_6_NoHistory: of a list that is no history nothing is seen, at any moment.
func TestP16_6_NoHistory(t *testing.T) {
	for e, ops := range noHistories() {
		for _, moment := range []int{least, -1, 0, 1, 2, 9, ever, greatest} {
			if got := lin.Until(ops, moment); len(got) != 0 {
				t.Errorf("%d: Until(%d): %s", e, moment, show(got))
			}
		}
	}
	if got := lin.Until(make([]api.Op, 4096), 0); len(got) != 4096 {
		t.Errorf("MaxHistory ops: %d", len(got))
	}
}

// TestP16_6_Drawn: many histories at every moment, held against the document's words; what is seen is a history, and what is seen of it earlier is what was seen then.
func TestP16_6_Drawn(t *testing.T) {
	d := drawerOf(t, 6)
	for range 300 {
		ops, _ := d.history(d.start(), d.r.Intn(9))
		moments := momentsOf(ops)
		for i, m := range moments {
			seen := lin.Until(ops, m)
			if !sameOps(seen, seenBy(ops, m)) {
				t.Fatalf("Until(%s, %d): %s", show(ops), m, show(seen))
			}
			wantCheck(t, "what is seen", seen, api.OK, 0)
			for _, earlier := range moments[:i+1] {
				wantUntil(t, "what is seen of what is seen", seen, earlier, seenBy(ops, earlier)...)
			}
		}
	}
}

// TestP16_7_Least: the least moment, of histories that go wrong at their first moment, in the midst, at their last, and not at all.
func TestP16_7_Least(t *testing.T) {
	s := five()
	wrong := func(o api.Op) api.Op {
		o.Reply.Now++
		return o
	}
	for name, x := range map[string]struct {
		ops    []api.Op
		moment int
		bad    bool
	}{
		"no ops":                     {nil, 0, false},
		"open ops":                   {[]api.Op{open(h("h"), 0, 3), open(h("i"), 5, ever)}, 0, false},
		"one that is right":          {[]api.Op{held("h", 0, 1)}, 0, false},
		"wrong at 0":                 {[]api.Op{wrong(held("h", 0, 0))}, 0, true},
		"wrong at 0, more behind it": {[]api.Op{wrong(held("h", 0, 0)), held("i", 4, 5)}, 0, true},
		"wrong at its end":           {[]api.Op{wrong(held("h", 4, 9))}, 9, true},
		"wrong at the last moment":   {[]api.Op{held("h", 0, 1), wrong(held("i", 2, ever))}, ever, true},
		"wrong at the last, alone":   {[]api.Op{wrong(held("h", ever, ever))}, ever, true},
		"wrong ahead of the last":    {[]api.Op{wrong(held("h", 0, ever-1)), held("i", 2, ever)}, ever - 1, true},
		"two wrong ones":             {[]api.Op{wrong(held("h", 0, 8)), wrong(held("i", 2, 5))}, 5, true},
		"sold twice":                 {[]api.Op{held("h", 0, 7), held("i", 2, 3)}, 7, true},
		"sold twice, at one moment":  {[]api.Op{held("h", 0, 7), held("i", 2, 7)}, 7, true},
		"it is told only later":      {[]api.Op{held("h", 0, 7), looked("r", 5, 3, 1, 2), no(h("i"), api.ErrStock, 3, 4)}, 0, false},
		"it is told wrongly later":   {[]api.Op{no(h("h"), api.ErrStock, 0, 7), looked("r", 5, 3, 1, 2)}, 7, true},
		"seen ahead of its asking":   {[]api.Op{held("h", 3, 7), looked("r", 5, 3, 1, 2)}, 2, true},
		"seen behind a crash":        {[]api.Op{open(h("h"), 0, 4), looked("r", 5, 0, 5, 6), looked("r", 5, 3, 5, 8), looked("r", 5, 0, 9, 10)}, 8, true},
		"seen behind a crash, then":  {[]api.Op{open(h("h"), 0, 4), looked("r", 5, 3, 5, 6), looked("r", 5, 0, 7, 8)}, 8, true},
		"the same without a crash":   {[]api.Op{open(h("h"), 0, ever), looked("r", 5, 0, 5, 6), looked("r", 5, 3, 7, 8)}, 0, false},
		"the last come first":        {[]api.Op{looked("r", 5, 0, 20, 21), held("h", 10, 11), looked("q", 5, 3, 4, 5)}, 5, true},
	} {
		wantLeast(t, name, x.ops, s, x.moment, x.bad)
		_, good, _ := lin.Order(x.ops, s)
		want(t, name+": has an order", good, !x.bad)
		for _, m := range momentsOf(x.ops) {
			_, good, _ := lin.Order(lin.Until(x.ops, m), s)
			want(t, name+": has an order at a moment", good, !x.bad || m < x.moment)
		}
	}
}

// TestP16_7_Errors: as Order's; see also TestP16_5_Errors.
func TestP16_7_Errors(t *testing.T) {
	wrong := held("h", 0, 3)
	wrong.Reply.Line = 1
	wantLeast(t, "wrong at 3", []api.Op{wrong}, five(), 3, true)
	for _, s := range unsound(t) {
		wantRefused(t, "wrong at 3, and a state that is not sound", []api.Op{wrong}, []int{0}, s, api.ErrState, api.ErrState)
	}
	wantRefused(t, "wrong at 3, and wrong moments", []api.Op{wrong, held("i", -1, 0)}, []int{0}, five(), api.ErrMoment, api.ErrMoment)
	nine := append(eight(8), wrong)
	if m, bad, e := lin.Least(nine, five()); m != 0 || bad || e != api.ErrTooLarge {
		t.Errorf("nine: %d, %v, %d", m, bad, e)
	}
	// Few of nine were asked at first, and yet nine are too many.
	wantLeast(t, "eight", nine[1:], five(), 3, true)
}
