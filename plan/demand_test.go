package plan_test

import (
	"fmt"
	"math"
	"math/rand"
	"slices"
	"testing"

	"larder/api"
	"larder/plan"
)

// past draws a history of so many numbers: small ones, great ones, and any.
func past(r *rand.Rand, n int) []int {
	most := []int{2, 10, 1000, 1 << 31, maxQty}[r.Intn(5)]
	var l []int
	for range n {
		l = append(l, r.Intn(most+1))
	}
	if n > 0 && r.Intn(4) == 0 {
		l[r.Intn(n)] = maxQty
	}
	return l
}

// TestP17_5_Steps holds Stats against its steps, each rounded by itself.
func TestP17_5_Steps(t *testing.T) {
	r := drawn(12)
	for i := range 3000 {
		history := past(r, i%40)
		mean, dev := steppedStats(history)
		wantStats(t, show(history), history, mean, dev)
	}
	for range 5 {
		history := past(r, maxHistory-r.Intn(2))
		mean, dev := steppedStats(history)
		wantStats(t, "long: "+show(history), history, mean, dev)
	}
}

// TestP17_5_Edges: no number, one, all the same, as great and as many as may be.
func TestP17_5_Edges(t *testing.T) {
	wantStats(t, "none", nil, 0, 0)
	wantStats(t, "none, not nil", []int{}, 0, 0)
	for _, n := range []int{0, 1, 7, maxQty - 1, maxQty} {
		wantStats(t, fmt.Sprint("one ", n), []int{n}, float64(n), 0)
		wantStats(t, fmt.Sprint("three ", n), same(3, n), float64(n), 0)
		wantStats(t, fmt.Sprint("MaxHistory ", n), same(maxHistory, n), float64(n), 0)
	}
	wantStats(t, "1, 2", []int{1, 2}, 1.5, 0.5)
	wantStats(t, "0, MaxQty", []int{0, maxQty}, maxQty/2, maxQty/2)
	// The mean is rounded: so the sum of the squares is not 0.
	wantStats(t, "a third", []int{0, 0, 1}, 1.0/3, 0.4714045207910317)
}

// TestP17_5_FirstToLast: the squares are laid together from the first number to the last; the other way round they come out otherwise, at times.
func TestP17_5_FirstToLast(t *testing.T) {
	r := drawn(18)
	told := 0
	for range 1000 {
		history := past(r, 3+r.Intn(20))
		mean, dev := steppedStats(history)
		slices.Reverse(history)
		_, turned := steppedStats(history)
		if turned != dev {
			told++
		}
		wantStats(t, show(history), history, mean, turned)
	}
	if told < 50 {
		t.Errorf("told: %d times alone", told)
	}
}

// TestP17_5_RoundedSteps: histories of which one rounding less would tell, where a product and a sum are rounded at once.
func TestP17_5_RoundedSteps(t *testing.T) {
	r := drawn(13)
	told := 0
	for range 2000 {
		history := past(r, 2+r.Intn(9))
		mean, dev := steppedStats(history)
		squares := 0.0
		for _, n := range history {
			squares = math.FMA(float64(n)-mean, float64(n)-mean, squares)
		}
		if math.Sqrt(squares/float64(len(history))) != dev {
			told++
		}
		wantStats(t, show(history), history, mean, dev)
	}
	if told < 50 {
		t.Errorf("told: %d times alone", told)
	}
}

// TestP17_6_Steps holds Smooth against its steps, each rounded by itself, and sees to it that one rounding less would tell.
func TestP17_6_Steps(t *testing.T) {
	r := drawn(14)
	told := 0
	for i := range 3000 {
		history := past(r, i%30)
		weight := []float64{0.5, 0.1, 0.25, 1 - r.Float64(), 1, 1.0 / 3, math.Ldexp(1-r.Float64(), -r.Intn(60))}[r.Intn(7)]
		want := steppedSmooth(history, weight)
		wantSmooth(t, fmt.Sprint(show(history), " by ", weight), history, weight, want...)
		for j := 1; j < len(want); j++ {
			rest := 1 - weight
			if math.FMA(weight, float64(history[j]), float64(rest*want[j-1])) != want[j] || math.FMA(rest, want[j-1], float64(weight*float64(history[j]))) != want[j] {
				told++
				break
			}
		}
	}
	if told < 500 {
		t.Errorf("told: %d times alone", told)
	}
	history := past(r, maxHistory)
	wantSmooth(t, "MaxHistory", history, 0.3, steppedSmooth(history, 0.3)...)
}

// TestP17_6_Weights: a weight must be above 0 and at most 1, and a number.
func TestP17_6_Weights(t *testing.T) {
	for _, w := range []float64{0, math.Copysign(0, -1), -1, -0.5, -math.SmallestNonzeroFloat64, math.Nextafter(1, 2), 1.5, math.MaxFloat64, -math.MaxFloat64, math.Inf(1), math.Inf(-1), math.NaN(), -math.NaN()} {
		for _, history := range [][]int{nil, {1}, {1, 2, 3}, same(maxHistory, maxQty)} {
			if l, e := plan.Smooth(history, w); len(l) != 0 || e != api.ErrNumber {
				t.Errorf("%v of %d: %s, %d", w, len(history), show(l), e)
			}
		}
	}
	for _, w := range []float64{math.SmallestNonzeroFloat64, 1e-310, 0x1p-1022, 1e-17, 0.5, math.Nextafter(1, 0), 1} {
		wantSmooth(t, "none", nil, w)
		wantSmooth(t, "none, not nil", []int{}, w)
		for _, history := range [][]int{{0}, {7}, {maxQty}, {0, 0}, {3, 9}, {9, 3, 0, maxQty, 1}} {
			wantSmooth(t, fmt.Sprint(history, " by ", w), history, w, steppedSmooth(history, w)...)
		}
	}
	wantSmooth(t, "one number is itself", []int{maxQty}, 0.001, maxQty)
	wantSmooth(t, "the first is whole, whatever the weight", []int{8, 0, 0}, 0.25, 8, 6, 4.5)
	wantSmooth(t, "a weight is that of the new number", []int{0, 8, 0}, 0.25, 0, 2, 1.5)
}

// TestP17_5_6_8_Histories: what is no history, for Stats, Smooth and Quarters.
func TestP17_5_6_8_Histories(t *testing.T) {
	full := same(maxHistory+1, 1)
	noHistory(t, "MaxHistory + 1", full, api.ErrLong)
	noHistory(t, "many more", same(3*maxHistory, 1), api.ErrLong)
	for _, n := range []int{-1, maxQty + 1, lowest, greatest} {
		noHistory(t, fmt.Sprint("one ", n), []int{n}, api.ErrNumber)
		noHistory(t, fmt.Sprint("the last ", n), []int{1, 2, n}, api.ErrNumber)
		noHistory(t, fmt.Sprint("the first ", n), []int{n, 2, 1}, api.ErrNumber)
		long := same(maxHistory+1, 1)
		long[7] = n
		noHistory(t, fmt.Sprint("too long, and with ", n), long, api.ErrLong)
		noHistory(t, fmt.Sprint("just full, with ", n), long[:maxHistory], api.ErrNumber)
		long[7], long[maxHistory-1] = 1, n
		noHistory(t, fmt.Sprint("the last of just as many ", n), long[:maxHistory], api.ErrNumber)
	}
	for _, history := range [][]int{nil, {}, {0}, {1}, {maxQty}, {0, maxQty}, full[:maxHistory], same(maxHistory, maxQty)} {
		_, _, e := plan.Stats(history)
		l, f := plan.Smooth(history, 0.5)
		_, g := plan.Quarters(history)
		if e != api.OK || f != api.OK || g != api.OK || len(l) != len(history) {
			t.Errorf("%s: %d, %d, %d, %d numbers", show(history), e, f, g, len(l))
		}
	}
}

// TestP17_7_Steps holds Point against its steps, each rounded by itself, and sees to it that other ways to round would tell.
func TestP17_7_Steps(t *testing.T) {
	r := drawn(15)
	once, turned, ceiled := 0, 0, 0
	for range 30000 {
		n := api.Need{Mean: float64(r.Intn(2000)) / 10, Dev: float64(r.Intn(100)) / 10, Z: float64(r.Intn(40)) / 10, Lead: []int{0, 1, 2, 3, 4, 9, 16, 25, 100, r.Intn(maxLead + 1), maxLead}[r.Intn(11)]}
		if r.Intn(4) == 0 {
			n = api.Need{Mean: r.Float64() * maxMean, Dev: r.Float64() * maxMean, Z: r.Float64() * maxZ, Lead: r.Intn(maxLead + 1)}
		}
		lead := float64(n.Lead)
		if n.Lead > 0 && r.Intn(2) == 0 { // a sum that is whole, but for rounding
			n.Dev, n.Z = r.Float64()*100, r.Float64()*5
			part := float64(n.Z*n.Dev) * math.Sqrt(lead)
			n.Mean = (math.Ceil(part) + float64(r.Intn(50)) - part) / lead
		}
		want := steppedPoint(n)
		wantPoint(t, show(n), n, want)
		if int(math.Ceil(math.FMA(n.Mean, lead, float64(n.Z*n.Dev)*math.Sqrt(lead)))) != want {
			once++
		}
		if int(math.Ceil(float64(n.Mean*lead)+float64(n.Z*float64(n.Dev*math.Sqrt(lead))))) != want {
			turned++
		}
		if int(math.Round(float64(n.Mean*lead)+float64(float64(n.Z*n.Dev)*math.Sqrt(lead)))) != want {
			ceiled++
		}
	}
	if once < 10 || turned < 10 || ceiled < 1000 {
		t.Errorf("told: %d, %d, %d times alone", once, turned, ceiled)
	}
}

// TestP17_7_Edges: each field at its limits; sums that are whole, and just above.
func TestP17_7_Edges(t *testing.T) {
	wantPoint(t, "nothing", api.Need{}, 0)
	wantPoint(t, "no lead", api.Need{Mean: 5, Dev: 5, Z: 5}, 0)
	wantPoint(t, "whole", api.Need{Mean: 7, Lead: 3}, 21)
	wantPoint(t, "a little above", api.Need{Mean: math.Nextafter(7, 8), Lead: 1}, 8)
	wantPoint(t, "a little below", api.Need{Mean: math.Nextafter(7, 6), Lead: 1}, 7)
	wantPoint(t, "a half", api.Need{Mean: 0.5, Lead: 1}, 1)
	wantPoint(t, "very little", api.Need{Mean: math.SmallestNonzeroFloat64, Lead: 1}, 1)
	wantPoint(t, "very little spread", api.Need{Dev: math.SmallestNonzeroFloat64, Z: 1, Lead: 1}, 1)
	wantPoint(t, "so little that it is none", api.Need{Dev: math.SmallestNonzeroFloat64, Z: 0.25, Lead: 1}, 0)
	wantPoint(t, "spread alone", api.Need{Dev: 2, Z: 3, Lead: 9}, 18)
	wantPoint(t, "a root that is not whole", api.Need{Dev: 1, Z: 1, Lead: 2}, 2)
	wantPoint(t, "Z without Dev", api.Need{Mean: 1, Z: 10, Lead: 5}, 5)
	wantPoint(t, "Dev without Z", api.Need{Mean: 1, Dev: 10, Lead: 5}, 5)
	wantPoint(t, "MaxMean", api.Need{Mean: maxMean, Lead: 1}, 1000000000)
	wantPoint(t, "MaxLead", api.Need{Mean: maxMean, Lead: maxLead}, 1000000000000)
	wantPoint(t, "a MaxMean of Dev", api.Need{Dev: maxMean, Z: 1, Lead: 1}, 1000000000)
	wantPoint(t, "MaxZ", api.Need{Dev: 1, Z: maxZ, Lead: 1}, 10)
	wantPoint(t, "all of it", api.Need{Mean: maxMean, Dev: maxMean, Z: maxZ, Lead: maxLead}, 1316227766017)
}

// TestP17_7_Wrong: Mean, Dev and Z no number, infinite, below 0, -0, at and just above the limit; Lead beyond its own.
func TestP17_7_Wrong(t *testing.T) {
	good := api.Need{Mean: 3, Dev: 2, Z: 1, Lead: 4}
	put := map[string]func(n *api.Need, x float64){
		"Mean": func(n *api.Need, x float64) { n.Mean = x },
		"Dev":  func(n *api.Need, x float64) { n.Dev = x },
		"Z":    func(n *api.Need, x float64) { n.Z = x },
	}
	for name, set := range put {
		limit := float64(maxMean)
		if name == "Z" {
			limit = maxZ
		}
		for _, x := range []float64{math.NaN(), math.Inf(1), math.Inf(-1), -1, -math.SmallestNonzeroFloat64, -math.MaxFloat64, math.MaxFloat64, math.Nextafter(limit, 2*limit), limit + 1} {
			n := good
			set(&n, x)
			noPoint(t, fmt.Sprint(name, " ", x), n)
			n.Lead = 0
			noPoint(t, fmt.Sprint(name, " ", x, " and no lead"), n)
		}
		for _, x := range []float64{math.Copysign(0, -1), 0, math.SmallestNonzeroFloat64, 1, math.Nextafter(limit, 0), limit} {
			n := good
			set(&n, x)
			wantPoint(t, fmt.Sprint(name, " ", x), n, steppedPoint(n))
		}
	}
	for _, lead := range []int{-1, maxLead + 1, lowest, greatest} {
		n := good
		n.Lead = lead
		noPoint(t, fmt.Sprint("Lead ", lead), n)
		noPoint(t, fmt.Sprint("Lead alone ", lead), api.Need{Lead: lead})
	}
	for _, lead := range []int{0, 1, maxLead} {
		n := good
		n.Lead = lead
		wantPoint(t, fmt.Sprint("Lead ", lead), n, steppedPoint(n))
	}
	minus := math.Copysign(0, -1)
	wantPoint(t, "all -0", api.Need{Mean: minus, Dev: minus, Z: minus, Lead: 7}, 0)
	noPoint(t, "all wrong", api.Need{Mean: math.NaN(), Dev: -1, Z: math.Inf(1), Lead: -1})
}
