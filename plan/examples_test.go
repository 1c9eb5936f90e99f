package plan_test

import (
	"math"
	"testing"

	"larder/api"
	"larder/plan"
)

// TestExample1: one depot with all of it, or two.
func TestExample1(t *testing.T) {
	order := lines(line("a", 3), line("b", 2))
	d := depots(depot(5, line("a", 3)), depot(2, line("b", 2)), depot(9, line("a", 3), line("b", 2)))
	wantShip(t, "with depot 2", order, d, parcel(2, line("a", 3), line("b", 2)))
	wantShip(t, "without it", order, d[:2], parcel(1, line("b", 2)), parcel(0, line("a", 3)))
}

// ofA are the depots of the examples 2 and 3.
func ofA() []api.Depot {
	return depots(depot(4, line("a", 3)), depot(1, line("a", 3)), depot(4, line("a", 4)))
}

// TestExample2: two are needed, and two choices are as near.
func TestExample2(t *testing.T) {
	wantShip(t, "a 5", lines(line("a", 5)), ofA(), parcel(1, line("a", 3)), parcel(0, line("a", 2)))
}

// TestExample3: too few, nothing, and lines that are none.
func TestExample3(t *testing.T) {
	eight := ofA()
	eight[2].Stock[0].Qty = 2
	noShip(t, "a 9 of 8", lines(line("a", 9)), eight, api.ErrShort, 0)
	noShip(t, "a 11 of 10", lines(line("a", 11)), ofA(), api.ErrShort, 0)
	wantShip(t, "nothing of nobody", nil, nil)
	noShip(t, "codes that fall", lines(line("b", 1), line("a", 1)), ofA(), api.ErrLine, 1)
	noShip(t, "a 0", lines(line("a", 0)), ofA(), api.ErrLine, 0)
}

// TestExample4: what is at its Point is ordered.
func TestExample4(t *testing.T) {
	x := api.Item{Code: "a", Have: 3, Point: 3, Upto: 10, Pack: 4}
	wantRestock(t, "Have 3", []api.Item{x}, line("a", 8))
	x.Have = 4
	wantRestock(t, "Have 4", []api.Item{x})
	x.Have, x.Point, x.Upto = 3, 5, 3
	wantRestock(t, "at Upto", []api.Item{x})
}

// TestExample5: a round, and stops that are all as far apart.
func TestExample5(t *testing.T) {
	wantTrip(t, "a round", [][]int{{0, 1, 9}, {9, 0, 1}, {1, 9, 0}}, 3, 0, 1, 2)
	wantTrip(t, "all 7", [][]int{{7, 7, 7}, {7, 7, 7}, {7, 7, 7}}, 21, 0, 1, 2)
	wantTrip(t, "all 7 but the diagonal", [][]int{{0, 7, 7}, {7, 0, 7}, {7, 7, 0}}, 21, 0, 1, 2)
}

// TestExample6: mean and spread.
func TestExample6(t *testing.T) {
	wantStats(t, "eight numbers", []int{2, 4, 4, 4, 5, 5, 7, 9}, 5, 2)
	wantStats(t, "none", nil, 0, 0)
}

// TestExample7: a smooth history.
func TestExample7(t *testing.T) {
	wantSmooth(t, "half and half", []int{10, 20}, 0.5, 10, 15)
	if l, e := plan.Smooth([]int{1}, 0); len(l) != 0 || e != api.ErrNumber {
		t.Errorf("weight 0: %v, %d", l, e)
	}
}

// TestExample8: a point, and one that rounding has lifted.
func TestExample8(t *testing.T) {
	wantPoint(t, "10, 2, 1.5, 4", api.Need{Mean: 10, Dev: 2, Z: 1.5, Lead: 4}, 46)
	wantPoint(t, "0.1 times 3", api.Need{Mean: 0.1, Lead: 3}, 1)
}

// TestExample9: quarters, and the strong one.
func TestExample9(t *testing.T) {
	wantQuarters(t, "1, 0, 0, 0", []int{1, 0, 0, 0}, 1, 1, 1, 1)
	wantQuarters(t, "0, 1, 0, 0", []int{0, 1, 0, 0}, 1, complex(0, -1), -1, complex(0, 1))
	wantQuarters(t, "3, 1, 3, 1", []int{3, 1, 3, 1}, 8, 0, 4, 0)
	q, _ := plan.Quarters([]int{3, 1, 3, 1})
	wantStrong(t, "of it", q, 2, 16)
}

// TestExample10: nothing is strong, and what is no number.
func TestExample10(t *testing.T) {
	wantStrong(t, "zeros", [4]complex128{}, 1, 0)
	noStrong(t, "infinite", [4]complex128{0, complex(0, math.Inf(-1)), 0, 0})
}
