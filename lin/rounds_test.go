package lin_test

import (
	"slices"
	"testing"

	"larder/api"
	"larder/lin"
)

// TestP16_8_AllOfThree: every history of up to three ops with moments from 0 to 3, answered, cut off and open: all orders, least first.
func TestP16_8_AllOfThree(t *testing.T) {
	var kinds []api.Op
	for begin := range 4 {
		for end := begin; end < 4; end++ {
			kinds = append(kinds, api.Op{Begin: begin, End: end}, api.Op{Begin: begin, End: end, Open: true})
		}
	}
	kinds = append(kinds, api.Op{Begin: 1, End: api.MaxMoment, Open: true})
	looked := 0
	var each func(ops []api.Op)
	each = func(ops []api.Op) {
		if got, all := slices.Collect(lin.Rounds(ops)), ordersOf(ops); !slices.EqualFunc(got, all, slices.Equal[[]int]) {
			t.Fatalf("Rounds(%s): %v, want %v", show(ops), got, all)
		}
		looked++
		if len(ops) == 3 {
			return
		}
		for _, o := range kinds {
			each(append(slices.Clone(ops), o))
		}
	}
	each(nil)
	want(t, "histories", looked, 1+21+21*21+21*21*21)
}

// TestP16_8_Drawn: histories of up to seven ops.
func TestP16_8_Drawn(t *testing.T) {
	d := drawerOf(t, 8)
	for range 200 {
		ops, _ := d.history(d.start(), d.r.Intn(8))
		got, all := slices.Collect(lin.Rounds(ops)), ordersOf(ops)
		if !slices.EqualFunc(got, all, slices.Equal[[]int]) {
			t.Fatalf("Rounds(%s): %v, want %v", show(ops), got, all)
		}
		if !slices.IsSortedFunc(got, slices.Compare[[]int]) {
			t.Fatalf("Rounds(%s): not in order: %v", show(ops), got)
		}
	}
}

func count(ops []api.Op) int {
	n := 0
	for range lin.Rounds(ops) {
		n++
	}
	return n
}

// TestP16_8_MaxSearch: eight ops, all side by side, in turn, and Open; over nine it goes not at all.
func TestP16_8_MaxSearch(t *testing.T) {
	beside := make([]api.Op, 9)
	opens := make([]api.Op, 9)
	turn := make([]api.Op, 9)
	for i := range 9 {
		opens[i].Open = true
		turn[i].Begin, turn[i].End = i, i
	}
	want(t, "eight side by side", count(beside[:8]), 40320)
	want(t, "eight open", count(opens[:8]), 109601)
	want(t, "eight in turn", count(turn[:8]), 1)
	want(t, "nine side by side", count(beside), 0)
	want(t, "nine open", count(opens), 0)
	want(t, "nine in turn", count(turn), 0)
	want(t, "MaxHistory", count(make([]api.Op, 4096)), 0)
	for e, ops := range noHistories() {
		if n := count(ops); n != 0 {
			t.Errorf("no history, %d: %d orders", e, n)
		}
	}
	wantRounds(t, "no ops", nil, nil)
	wantRounds(t, "an empty list", []api.Op{}, []int{})
}

// side answers three ops: two side by side, and one that is open.
func side() []api.Op {
	return []api.Op{held("h", 0, 5), held("i", 2, 3), open(h("k"), 1, 4)}
}

func sideOrders() [][]int {
	return [][]int{{0, 1}, {0, 1, 2}, {0, 2, 1}, {1, 0}, {1, 0, 2}, {1, 2, 0}, {2, 0, 1}, {2, 1, 0}}
}

// TestP16_8_NotAsked: whether an order fits is not asked, nor what the requests are.
func TestP16_8_NotAsked(t *testing.T) {
	wantRounds(t, "three", side(), sideOrders()...)
	bare := side()
	for i := range bare {
		bare[i].Request, bare[i].Reply = api.Request{}, api.Reply{}
	}
	wantRounds(t, "three bare ones", bare, sideOrders()...)
}

// TestR7_Left: Rounds is left at once, behind each order, and not at all; nothing is handed out behind that.
func TestR7_Left(t *testing.T) {
	seq := lin.Rounds(side())
	all := sideOrders()
	for stop := 1; stop <= len(all)+1; stop++ {
		var got [][]int
		seq(func(l []int) bool {
			got = append(got, l)
			return len(got) < stop
		})
		if !slices.EqualFunc(got, all[:min(stop, len(all))], slices.Equal[[]int]) {
			t.Errorf("left behind %d: %v", stop, got)
		}
	}
	// One that is left has gone no further: with eight open ops all orders would be a hundred thousand.
	n := 0
	for l := range lin.Rounds(make([]api.Op, 8)) {
		if n++; n == 3 {
			want(t, "the third", show(l), show([]int{0, 1, 2, 3, 4, 6, 5, 7}))
			break
		}
	}
	want(t, "seen", n, 3)
}

// TestR7_Again: it may be gone over again, when it was left in the midst, and when the loop fell.
func TestR7_Again(t *testing.T) {
	seq := lin.Rounds(side())
	for range 3 {
		if got := slices.Collect(seq); !slices.EqualFunc(got, sideOrders(), slices.Equal[[]int]) {
			t.Errorf("again: %v", got)
		}
		for l := range seq {
			if len(l) == 3 {
				break
			}
		}
		func() {
			defer func() { recover() }()
			for range seq {
				panic("the loop falls")
			}
		}()
	}
}

// TestR7_Nested: loops over one iterator inside each other, and over two of one history.
func TestR7_Nested(t *testing.T) {
	seq := lin.Rounds(side())
	all := sideOrders()
	i := 0
	for l := range seq {
		j := 0
		for m := range seq {
			if !slices.Equal(l, all[i]) || !slices.Equal(m, all[j]) {
				t.Fatalf("%d, %d: %v, %v", i, j, l, m)
			}
			k := 0
			for o := range lin.Rounds(side()) {
				if !slices.Equal(o, all[k]) {
					t.Fatalf("%d: %v", k, o)
				}
				if k++; k > j {
					break
				}
			}
			j++
		}
		want(t, "inner loop", j, len(all))
		i++
	}
	want(t, "outer loop", i, len(all))
}

// TestR7_AsItWas: it goes over the history as it was at the call, and no list that it has handed out is touched again.
func TestR7_AsItWas(t *testing.T) {
	ops := side()
	seq := lin.Rounds(ops)
	clear(ops)
	if got := slices.Collect(seq); !slices.EqualFunc(got, sideOrders(), slices.Equal[[]int]) {
		t.Errorf("written over behind the call: %v", got)
	}
	ops = side()
	seq = lin.Rounds(ops)
	all := sideOrders()
	var kept [][]int
	for l := range seq {
		if !slices.Equal(l, all[len(kept)]) {
			t.Fatalf("order %d: %v", len(kept), l)
		}
		ops[len(kept)%3] = open(h("x"), 7+len(kept), 99)
		l = l[:cap(l)]
		for i := range l {
			l[i] = 77
		}
		kept = append(kept, l)
		_ = append(l, 78)
	}
	want(t, "orders", len(kept), len(all))
	for _, l := range kept {
		for _, x := range l {
			want(t, "a list that was written over", x, 77)
		}
	}
	if got := slices.Collect(seq); !slices.EqualFunc(got, all, slices.Equal[[]int]) {
		t.Errorf("behind lists that were written over: %v", got)
	}
	// One that goes over no order stays so, one that goes over some too.
	ops = make([]api.Op, 9)
	none := lin.Rounds(ops)
	one := lin.Rounds(ops[:1])
	ops[0].Begin = -1
	want(t, "nine", len(slices.Collect(none)), 0)
	want(t, "one", len(slices.Collect(one)), 1)
	want(t, "no history any more", count(ops[:1]), 0)
}
