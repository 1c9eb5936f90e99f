package plan_test

import (
	"math"
	"slices"
	"testing"

	"larder/api"
	"larder/plan"
)

// TestP17_10_Again: Ship, Restock and Trip, asked twice, answer the same, whatever was asked in between.
func TestP17_10_Again(t *testing.T) {
	r := drawn(20)
	for range 2000 {
		order, d := shop(r, 6)
		p, e, i := plan.Ship(order, d)
		far := square(r, r.Intn(7), 3)
		way, n, f := plan.Trip(far)
		list := items(item("a", r.Intn(9), r.Intn(9), r.Intn(9), r.Intn(40), r.Intn(9)))
		l, g, j := plan.Restock(list)
		other, others := shop(r, 6)
		plan.Ship(other, others)
		plan.Trip(square(r, 5, 9))
		plan.Restock(items(item("a", 0, 0, 9, 9, 2), item("b", 0, 0, 9, 9, 2)))
		q, again, k := plan.Ship(order, d)
		if !sameParcels(p, q) || e != again || i != k {
			t.Fatalf("%s of %s: %s, %d, %d; then %s, %d, %d", show(order), show(d), show(p), e, i, show(q), again, k)
		}
		back, m, again := plan.Trip(far)
		if !slices.Equal(way, back) || n != m || f != again {
			t.Fatalf("%v: %v, %d, %d; then %v, %d, %d", far, way, n, f, back, m, again)
		}
		lined, again, k := plan.Restock(list)
		if !slices.Equal(l, lined) || g != again || j != k {
			t.Fatalf("%v: %v, %d, %d; then %v, %d, %d", list, l, g, j, lined, again, k)
		}
	}
}

// TestP17_10_DepotBehind: a depot that is put behind the others, from which nothing is taken, changes no parcel.
func TestP17_10_DepotBehind(t *testing.T) {
	r := drawn(21)
	tally := map[string]int{}
	for range 20000 {
		order, d := shop(r, 6)
		_, more := shop(r, 3)
		if len(more) == 0 {
			continue
		}
		p, e, i := plan.Ship(order, d)
		q, f, j := plan.Ship(order, append(slices.Clone(d), more[0]))
		if f == api.OK && slices.ContainsFunc(q, func(p api.Parcel) bool { return p.Depot == len(d) }) {
			tally["taken from"]++
			continue
		}
		tally["not"]++
		if f == api.OK && (!sameParcels(p, q) || e != f || i != j) || e == api.OK && f != api.OK {
			t.Fatalf("%s of %s and %s: %s, %d, %d; then %s, %d, %d", show(order), show(d), show(more[0]), show(p), e, i, show(q), f, j)
		}
	}
	must(t, tally, map[string]int{"taken from": 500, "not": 2000})
	// One that is as good as another comes behind it.
	d := depots(depot(3, line("a", 2)), depot(3, line("a", 2)))
	for len(d) < maxDepots {
		wantShip(t, "as good", lines(line("a", 2)), d, parcel(0, line("a", 2)))
		d = append(d, depot(3, line("a", 2)))
	}
}

// TestP17_10_NoShorter: Trip's length is that of its order, and at most that of any other that begins with 0.
func TestP17_10_NoShorter(t *testing.T) {
	r := drawn(22)
	for range 500 {
		n := 1 + r.Intn(maxStops)
		far := square(r, n, []int{1, 10, maxFar}[r.Intn(3)])
		order, length, e := plan.Trip(far)
		if e != api.OK || len(order) != n || order[0] != 0 || !slices.Equal(slices.Sorted(slices.Values(order)), slices.Sorted(slices.Values(r.Perm(n)))) || wayOf(far, order) != length {
			t.Fatalf("%v: %v, %d, %d", far, order, length, e)
		}
		for range 50 {
			other := []int{0}
			for _, i := range r.Perm(n - 1) {
				other = append(other, i+1)
			}
			if m := wayOf(far, other); m < length || m == length && slices.Compare(other, order) < 0 {
				t.Fatalf("%v: %v, %d; but %v is %d", far, order, length, other, m)
			}
		}
	}
}

// TestP17_10_Smooth: with weight 1 it is the history; with others each number lies between the least and the greatest so far, but for rounding.
func TestP17_10_Smooth(t *testing.T) {
	r := drawn(23)
	for range 2000 {
		history := past(r, r.Intn(30))
		var want []float64
		for _, n := range history {
			want = append(want, float64(n))
		}
		wantSmooth(t, show(history), history, 1, want...)
		weight := 1 - r.Float64()
		l, e := plan.Smooth(history, weight)
		if e != api.OK || len(l) != len(history) {
			t.Fatalf("%v by %v: %v, %d", history, weight, l, e)
		}
		for i, x := range l {
			low, high := float64(slices.Min(history[:i+1])), float64(slices.Max(history[:i+1]))
			if slack := high * 1e-12; x < low-slack || x > high+slack {
				t.Fatalf("%v by %v: %v at %d", history, weight, x, i)
			}
		}
	}
}

// TestP17_10_PointGrows: with Mean, Dev and Z, each alone, by much and by as little as there is.
func TestP17_10_PointGrows(t *testing.T) {
	r := drawn(24)
	grown := 0
	for range 5000 {
		n := api.Need{Mean: r.Float64() * 20, Dev: r.Float64() * 20, Z: r.Float64() * 5, Lead: r.Intn(maxLead + 1)}
		at, e := plan.Point(n)
		if e != api.OK {
			t.Fatalf("%v: %d", n, e)
		}
		for _, up := range []func(float64) float64{func(x float64) float64 { return math.Nextafter(x, 100) }, func(x float64) float64 { return x + r.Float64()*5 }} {
			mean, dev, z := n, n, n
			mean.Mean, dev.Dev, z.Z = up(n.Mean), up(n.Dev), up(n.Z)
			for _, m := range []api.Need{mean, dev, z} {
				p, e := plan.Point(m)
				if p < at || e != api.OK {
					t.Fatalf("%v: %d; %v: %d, %d", n, at, m, p, e)
				}
				if p > at {
					grown++
				}
			}
		}
	}
	if grown < 10000 {
		t.Errorf("grown: %d times alone", grown)
	}
}

// TestP17_10_Quarters: the 0-th is the sum, the third the first one's conjugate.
func TestP17_10_Quarters(t *testing.T) {
	r := drawn(25)
	for range 2000 {
		history := past(r, r.Intn(60))
		sum := 0
		for _, n := range history {
			sum += n
		}
		q, e := plan.Quarters(history)
		if e != api.OK || q[0] != complex(float64(sum), 0) || q[3] != complex(real(q[1]), -imag(q[1])) || imag(q[2]) != 0 {
			t.Fatalf("%v: %v, %d", history, q, e)
		}
	}
}
