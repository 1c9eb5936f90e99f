package plan_test

import (
	"fmt"
	"math/rand"
	"slices"
	"testing"

	"larder/api"
	"larder/plan"
)

// wayOf answers how far it is through an order of stops and back to 0.
func wayOf(far [][]int, order []int) int {
	sum := 0
	for i, at := range order {
		if next := order[(i+1)%len(order)]; next != at {
			sum += far[at][next]
		}
	}
	return sum
}

// orders goes over all orders of n stops that begin with 0, the least first.
func orders(n int, yield func([]int)) {
	order := make([]int, min(n, 1))
	used := make([]bool, n)
	var extend func()
	extend = func() {
		if len(order) == n {
			yield(order)
			return
		}
		for i := 1; i < n; i++ {
			if !used[i] {
				used[i], order = true, append(order, i)
				extend()
				used[i], order = false, order[:len(order)-1]
			}
		}
	}
	extend()
}

// tried answers the first of all orders whose way is the shortest, its length, and how many are as short.
func tried(far [][]int) ([]int, int, int) {
	var best []int
	length, alike := -1, 0
	orders(len(far), func(order []int) {
		n := wayOf(far, order)
		switch {
		case length < 0 || n < length:
			best, length, alike = slices.Clone(order), n, 1
		case n == length:
			alike++
		}
	})
	return best, length, alike
}

// square draws how far n stops are from each other.
func square(r *rand.Rand, n, most int) [][]int {
	var far [][]int
	for range n {
		var row []int
		for range n {
			row = append(row, r.Intn(most+1))
		}
		far = append(far, row)
	}
	return far
}

// TestP17_4_AllOrders holds Trip against a search over all orders of the stops.
func TestP17_4_AllOrders(t *testing.T) {
	r := drawn(5)
	tally := map[string]int{}
	for n := range 8 {
		for i := range []int{1, 10, 50, 500, 2000, 2000, 600, 200}[n] {
			most := []int{1, 2, 5, 20, maxFar}[i%5]
			far := square(r, n, most)
			order, length, alike := tried(far)
			if alike > 1 {
				tally[fmt.Sprint("alike with ", n)]++
			}
			wantTrip(t, show(far), far, length, order...)
		}
	}
	must(t, tally, map[string]int{"alike with 3": 50, "alike with 4": 200, "alike with 5": 500, "alike with 6": 200, "alike with 7": 50})
}

// TestP17_4_LongOrders: the same of more stops.
func TestP17_4_LongOrders(t *testing.T) {
	r := drawn(6)
	for _, most := range []int{1, 3, 100} {
		for n := 8; n <= 9; n++ {
			far := square(r, n, most)
			order, length, _ := tried(far)
			wantTrip(t, show(far), far, length, order...)
		}
	}
}

// bounded answers the same as tried, and leaves out whatever can't come below the best so far: each step costs the least number at least.
func bounded(far [][]int) ([]int, int) {
	n := len(far)
	step := greatest
	for i := range n {
		for j := range n {
			if i != j {
				step = min(step, far[i][j])
			}
		}
	}
	var best []int
	length := -1
	order, used := []int{0}, make([]bool, n)
	var extend func(so int)
	extend = func(so int) {
		if length >= 0 && so+step*(n-len(order)+1) >= length {
			return
		}
		last := order[len(order)-1]
		if len(order) == n {
			if whole := so + far[last][0]; length < 0 || whole < length {
				best, length = slices.Clone(order), whole
			}
			return
		}
		for i := 1; i < n; i++ {
			if !used[i] {
				used[i], order = true, append(order, i)
				extend(so + far[last][i])
				used[i], order = false, order[:len(order)-1]
			}
		}
	}
	extend(0)
	return best, length
}

// TestP17_4_MaxStops holds Trip of as many stops as there may be against a search that leaves out what can't be best.
func TestP17_4_MaxStops(t *testing.T) {
	r := drawn(7)
	for i := range 60 {
		far := square(r, maxStops-i%2, []int{1, 3, 60}[i%3])
		order, length := bounded(far)
		// The bound leaves an order out that comes to the best so far; but that was found ahead of it, and is less.
		wantTrip(t, show(far), far, length, order...)
	}
}

// ring answers stops that lie in a round, in this order, with one number between neighbours and another between all others.
func ring(order []int, near, far int) [][]int {
	var l [][]int
	for range order {
		l = append(l, same(len(order), far))
	}
	for i, at := range order {
		l[at][order[(i+1)%len(order)]] = near
	}
	return l
}

// TestP17_4_Ring: one order alone is the shortest, of few stops and of MaxStops; the way back would not do.
func TestP17_4_Ring(t *testing.T) {
	r := drawn(8)
	for n := 3; n <= maxStops; n++ {
		order := []int{0}
		for _, i := range r.Perm(n - 1) {
			order = append(order, i+1)
		}
		wantTrip(t, "a ring", ring(order, 1, 2), n, order...)
		wantTrip(t, "a ring of nothing", ring(order, 0, maxFar), 0, order...)
	}
}

// TestP17_4_Alike: of orders that are as short the least one.
func TestP17_4_Alike(t *testing.T) {
	var rising []int
	for n := 1; n <= maxStops; n++ {
		rising = append(rising, n-1)
		for _, each := range []int{0, 1, maxFar} {
			var far [][]int
			for range n {
				far = append(far, same(n, each))
			}
			length := n * each
			if n == 1 {
				length = 0
			}
			wantTrip(t, fmt.Sprint(n, " stops, all ", each), far, length, rising...)
		}
	}
	// There and back are as far: the order whose second stop is the lesser.
	there := ring([]int{0, 3, 1, 2, 4}, 1, 9)
	for i, order := 0, []int{0, 3, 1, 2, 4}; i < 5; i++ {
		there[order[(i+1)%5]][order[i]] = 1
	}
	wantTrip(t, "a ring both ways", there, 5, 0, 3, 1, 2, 4)
	// A near first stop is no short way: 0, 1, 2 is 1 + 9 + 1, and 0, 2, 1 is 2 + 2 + 2.
	wantTrip(t, "the whole counts", [][]int{{0, 1, 2}, {2, 0, 9}, {1, 2, 0}}, 6, 0, 2, 1)
	wantTrip(t, "as short", [][]int{{0, 1, 2}, {2, 0, 4}, {1, 2, 0}}, 6, 0, 1, 2)
}

// TestP17_4_Few: no stop, one, two.
func TestP17_4_Few(t *testing.T) {
	wantTrip(t, "none", nil, 0)
	wantTrip(t, "none, not nil", [][]int{}, 0)
	for _, n := range []int{0, 5, maxFar} {
		wantTrip(t, "one", [][]int{{n}}, 0, 0)
	}
	wantTrip(t, "two", [][]int{{7, 3}, {4, 8}}, 7, 0, 1)
	wantTrip(t, "two, far apart", [][]int{{0, maxFar}, {maxFar, 0}}, 2*maxFar, 0, 1)
}

// TestP17_4_Diagonal: what stands there changes nothing.
func TestP17_4_Diagonal(t *testing.T) {
	r := drawn(9)
	for range 300 {
		far := square(r, 1+r.Intn(6), 5)
		order, length, _ := plan.Trip(far)
		for i := range far {
			far[i][i] = []int{0, 1, maxFar}[r.Intn(3)]
		}
		wantTrip(t, show(far), far, length, order...)
	}
}

// TestP17_4_Wrong: too many stops, rows that are too short, too long and nil, numbers beyond their limits.
func TestP17_4_Wrong(t *testing.T) {
	full := func(n int) [][]int { return square(drawn(10), n, 9) }
	if _, _, e := plan.Trip(full(maxStops)); e != api.OK {
		t.Errorf("MaxStops: %d", e)
	}
	noTrip(t, "one more", full(maxStops+1), api.ErrLong)
	noTrip(t, "one more, and no rows", make([][]int, maxStops+1), api.ErrLong)
	noTrip(t, "many more", make([][]int, 1000), api.ErrLong)
	for _, n := range []int{1, 2, 3, maxStops} {
		for i := range n {
			row := full(n)[i]
			for name, other := range map[string][]int{"short": row[:n-1], "long": append(slices.Clone(row), 1), "nil": nil} {
				far := full(n)
				far[i] = other
				noTrip(t, fmt.Sprint("row ", i, " of ", n, ": ", name), far, api.ErrFar)
			}
			for j := range n {
				for _, x := range []int{-1, maxFar + 1, lowest, greatest} {
					far := full(n)
					far[i][j] = x
					noTrip(t, fmt.Sprint(x, " at ", i, ", ", j, " of ", n), far, api.ErrFar)
				}
			}
		}
	}
	noTrip(t, "rows that grow", [][]int{{0}, {0, 0}}, api.ErrFar)
	noTrip(t, "rows that are as long, but too few", [][]int{{0, 1, 2}, {3, 0, 4}}, api.ErrFar)
	noTrip(t, "more rows than columns", [][]int{{0, 1}, {3, 0}, {3, 0}}, api.ErrFar)
	noTrip(t, "a row without numbers", [][]int{{}}, api.ErrFar)
}
