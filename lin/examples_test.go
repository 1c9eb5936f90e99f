package lin_test

import (
	"testing"

	"larder/api"
	"larder/lin"
)

// TestExample1: two holds of 3 of 5.
func TestExample1(t *testing.T) {
	s := five()
	wantOrder(t, "in turn", []api.Op{held("h", 0, 1), no(h("i"), api.ErrStock, 2, 3)}, s, 0, 1)
	wantOrder(t, "side by side", []api.Op{held("h", 0, 1), no(h("i"), api.ErrStock, 0, 3)}, s, 0, 1)
	both := []api.Op{held("h", 0, 1), held("i", 2, 3)}
	wantNone(t, "OK of both", both, s)
	wantLeast(t, "OK of both", both, s, 3, true)
	both[1].Begin = 0
	wantNone(t, "OK of both, side by side", both, s)
	wantLeast(t, "OK of both, side by side", both, s, 3, true)
}

// TestExample2: an op that is open, and not cut off.
func TestExample2(t *testing.T) {
	s := five()
	wantOrder(t, "ErrStock", []api.Op{open(h("h"), 0, ever), no(h("i"), api.ErrStock, 1, 2)}, s, 0, 1)
	ok := []api.Op{open(h("h"), 0, ever), held("i", 1, 2)}
	wantOrder(t, "OK", ok, s, 1)
	wantHolds(t, "OK, the greater order", ok, []int{1, 0}, s, true)
}

// TestExample3: one that was cut off.
func TestExample3(t *testing.T) {
	s := five()
	cut := open(h("h"), 0, 4)
	wantOrder(t, "5 and 0", []api.Op{cut, looked("r", 5, 0, 6, 7)}, s, 1)
	wantOrder(t, "5 and 3", []api.Op{cut, looked("r", 5, 3, 6, 7)}, s, 0, 1)
	for _, l := range [][]int{{0, 3}, {3, 0}} {
		wantNone(t, "another answer later", []api.Op{cut, looked("r", 5, l[0], 6, 7), looked("q", 5, l[1], 8, 9)}, s)
	}
}

// TestExample4: no histories.
func TestExample4(t *testing.T) {
	wantCheck(t, "Begin 3, End 2", []api.Op{held("h", 3, 2)}, api.ErrMoment, 0)
	o := held("h", 0, 1)
	o.Open = true
	wantCheck(t, "Open with a Reply", []api.Op{o}, api.ErrAnswered, 0)
}

// TestExample5: no orders.
func TestExample5(t *testing.T) {
	for _, order := range [][]int{{0, 0}, {0, 2}, {2, 0}, {0}, {1}} {
		if good, e := lin.Holds(two(), order, five()); good || e != api.OK {
			t.Errorf("%v: %v, %d", order, good, e)
		}
	}
}

// TestExample6: Rounds of two ops, and of one that is open.
func TestExample6(t *testing.T) {
	wantRounds(t, "two side by side", []api.Op{held("h", 0, 5), held("i", 2, 3)}, []int{0, 1}, []int{1, 0})
	wantRounds(t, "one that is open", []api.Op{open(h("h"), 0, ever)}, nil, []int{0})
}

// TestExample7: no ops.
func TestExample7(t *testing.T) {
	wantOrder(t, "no ops", nil, five())
	wantOrder(t, "no ops", []api.Op{}, five())
}
