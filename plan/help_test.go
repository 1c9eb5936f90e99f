package plan_test

import (
	"fmt"
	"math"
	"math/rand"
	"slices"
	"strings"
	"testing"

	"larder/api"
	"larder/plan"
)

// The document's limits.
const (
	maxDepots  = 12
	maxOrder   = 16
	maxGoods   = 512
	maxFar     = 1000000000
	maxCode    = 40
	maxQty     = 1099511627776
	maxItems   = 512
	maxStops   = 12
	maxHistory = 4096
	maxLead    = 1000
	maxMean    = 1e9
	maxZ       = 10
)

const (
	greatest = math.MaxInt
	lowest   = math.MinInt
)

// show answers a thing in words, as many of them as one can read.
func show(v any) string { return fmt.Sprintf("%.2000s", fmt.Sprintf("%+v", v)) }

// must asks that what was drawn was not empty.
func must(t *testing.T, tally map[string]int, most map[string]int) {
	t.Helper()
	for what, n := range most {
		if tally[what] < n {
			t.Errorf("%s: %d times alone", what, tally[what])
		}
	}
}

func drawn(seed int) *rand.Rand { return rand.New(rand.NewSource(int64(seed))) }

// Things, short.

func line(code string, qty int) api.Line { return api.Line{Code: code, Qty: qty} }

func lines(l ...api.Line) []api.Line { return l }

func depot(far int, stock ...api.Line) api.Depot { return api.Depot{Far: far, Stock: stock} }

func depots(l ...api.Depot) []api.Depot { return l }

func parcel(depot int, l ...api.Line) api.Parcel { return api.Parcel{Depot: depot, Lines: l} }

// code answers one of many codes that rise with their numbers.
func code(n int) string { return fmt.Sprintf("c%05d", n) }

// many answers so many lines that rise, each with this number.
func many(n, qty int) []api.Line {
	var l []api.Line
	for i := range n {
		l = append(l, line(code(i), qty))
	}
	return l
}

// long answers a code of so many bytes that begins with a byte.
func long(first string, n int) string { return first + strings.Repeat("z", n-1) }

// Lists are held against each other, nil and empty ones alike.

func sameParcels(p, q []api.Parcel) bool {
	return slices.EqualFunc(p, q, func(a, b api.Parcel) bool { return a.Depot == b.Depot && slices.Equal(a.Lines, b.Lines) })
}

// What calls are asked for.

func wantShip(t *testing.T, name string, order []api.Line, d []api.Depot, want ...api.Parcel) {
	t.Helper()
	if p, e, i := plan.Ship(order, d); !sameParcels(p, want) || e != api.OK || i != 0 {
		t.Errorf("%s: %s, %d, %d; want %s", name, show(p), e, i, show(want))
	}
}

func noShip(t *testing.T, name string, order []api.Line, d []api.Depot, err api.Errno, at int) {
	t.Helper()
	if p, e, i := plan.Ship(order, d); len(p) != 0 || e != err || i != at {
		t.Errorf("%s: %s, %d, %d; want %d, %d", name, show(p), e, i, err, at)
	}
}

// goodShip asks that an order is shipped, whatever its parcels.
func goodShip(t *testing.T, name string, order []api.Line, d []api.Depot) {
	t.Helper()
	if _, e, i := plan.Ship(order, d); e != api.OK || i != 0 {
		t.Errorf("%s: %d, %d", name, e, i)
	}
}

func wantRestock(t *testing.T, name string, items []api.Item, want ...api.Line) {
	t.Helper()
	if l, e, i := plan.Restock(items); !slices.Equal(l, want) || e != api.OK || i != 0 {
		t.Errorf("%s: %s, %d, %d; want %s", name, show(l), e, i, show(want))
	}
}

func noRestock(t *testing.T, name string, items []api.Item, err api.Errno, at int) {
	t.Helper()
	if l, e, i := plan.Restock(items); len(l) != 0 || e != err || i != at {
		t.Errorf("%s: %s, %d, %d; want %d, %d", name, show(l), e, i, err, at)
	}
}

func wantTrip(t *testing.T, name string, far [][]int, length int, order ...int) {
	t.Helper()
	if l, n, e := plan.Trip(far); !slices.Equal(l, order) || n != length || e != api.OK {
		t.Errorf("%s: %v, %d, %d; want %v, %d", name, l, n, e, order, length)
	}
}

func noTrip(t *testing.T, name string, far [][]int, err api.Errno) {
	t.Helper()
	if l, n, e := plan.Trip(far); len(l) != 0 || n != 0 || e != err {
		t.Errorf("%s: %v, %d, %d; want %d", name, l, n, e, err)
	}
}

// sameFloat holds numbers against each other bit by bit, so that -0 is not 0.
func sameFloat(x, y float64) bool { return math.Float64bits(x) == math.Float64bits(y) }

func wantStats(t *testing.T, name string, history []int, mean, dev float64) {
	t.Helper()
	if m, d, e := plan.Stats(history); !sameFloat(m, mean) || !sameFloat(d, dev) || e != api.OK {
		t.Errorf("%s: %v, %v, %d; want %v, %v", name, m, d, e, mean, dev)
	}
}

func wantSmooth(t *testing.T, name string, history []int, weight float64, want ...float64) {
	t.Helper()
	if l, e := plan.Smooth(history, weight); !slices.EqualFunc(l, want, sameFloat) || e != api.OK {
		t.Errorf("%s: %s, %d; want %s", name, show(l), e, show(want))
	}
}

func wantPoint(t *testing.T, name string, n api.Need, want int) {
	t.Helper()
	if p, e := plan.Point(n); p != want || e != api.OK {
		t.Errorf("%s: %d, %d; want %d", name, p, e, want)
	}
}

func noPoint(t *testing.T, name string, n api.Need) {
	t.Helper()
	if p, e := plan.Point(n); p != 0 || e != api.ErrNumber {
		t.Errorf("%s: %d, %d", name, p, e)
	}
}

func sameComplex(a, b complex128) bool {
	return sameFloat(real(a), real(b)) && sameFloat(imag(a), imag(b))
}

func wantQuarters(t *testing.T, name string, history []int, want ...complex128) {
	t.Helper()
	if q, e := plan.Quarters(history); !slices.EqualFunc(q[:], want, sameComplex) || e != api.OK {
		t.Errorf("%s: %v, %d; want %v", name, q, e, want)
	}
}

func wantStrong(t *testing.T, name string, q [4]complex128, k int, x float64) {
	t.Helper()
	if l, y, e := plan.Strong(q); l != k || !sameFloat(x, y) || e != api.OK {
		t.Errorf("%s: %d, %v, %d; want %d, %v", name, l, y, e, k, x)
	}
}

func noStrong(t *testing.T, name string, q [4]complex128) {
	t.Helper()
	if k, x, e := plan.Strong(q); k != 0 || !sameFloat(x, 0) || e != api.ErrNumber {
		t.Errorf("%s: %d, %v, %d", name, k, x, e)
	}
}

// noHistory asks that Stats, Smooth and Quarters refuse a history. Smooth does so ahead of its weight.
func noHistory(t *testing.T, name string, history []int, err api.Errno) {
	t.Helper()
	if m, d, e := plan.Stats(history); !sameFloat(m, 0) || !sameFloat(d, 0) || e != err {
		t.Errorf("%s: Stats: %v, %v, %d; want %d", name, m, d, e, err)
	}
	for _, weight := range []float64{0.5, 1, 0, math.NaN()} {
		if l, e := plan.Smooth(history, weight); len(l) != 0 || e != err {
			t.Errorf("%s: Smooth: %s, %d; want %d", name, show(l), e, err)
		}
	}
	if q, e := plan.Quarters(history); q != ([4]complex128{}) || e != err {
		t.Errorf("%s: Quarters: %v, %d; want %d", name, q, e, err)
	}
}

// same answers a list of so many of one number.
func same(n, x int) []int { return slices.Repeat([]int{x}, n) }
