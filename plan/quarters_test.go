package plan_test

import (
	"fmt"
	"math"
	"testing"

	"larder/plan"
)

// TestP17_8_Steps holds Quarters against sums in whole numbers, of which -0 is none.
func TestP17_8_Steps(t *testing.T) {
	r := drawn(16)
	for i := range 5000 {
		history := past(r, i%50)
		wantQuarters(t, show(history), history, steppedQuarters(history)...)
	}
	for n := maxHistory - 4; n <= maxHistory; n++ {
		history := past(r, n)
		wantQuarters(t, fmt.Sprint(n, " numbers"), history, steppedQuarters(history)...)
	}
}

// TestP17_8_Edges: no number, one at each place, as many and as great as may be.
func TestP17_8_Edges(t *testing.T) {
	wantQuarters(t, "none", nil, 0, 0, 0, 0)
	wantQuarters(t, "none, not nil", []int{}, 0, 0, 0, 0)
	wantQuarters(t, "zeros", []int{0, 0, 0, 0, 0}, 0, 0, 0, 0)
	wantQuarters(t, "one", []int{5}, 5, 5, 5, 5)
	down, up := complex(0, -1), complex(0, 1)
	wantQuarters(t, "at place 1", []int{0, 1}, 1, down, complex(-1, 0), up)
	wantQuarters(t, "at place 2", []int{0, 0, 1}, 1, complex(-1, 0), 1, complex(-1, 0))
	wantQuarters(t, "at place 3", []int{0, 0, 0, 1}, 1, up, complex(-1, 0), down)
	wantQuarters(t, "at place 4", []int{0, 0, 0, 0, 1}, 1, 1, 1, 1)
	wantQuarters(t, "at place 4095", append(same(maxHistory-1, 0), 3), 3, complex(0, 3), complex(-3, 0), complex(0, -3))
	const most = maxQty * maxHistory
	wantQuarters(t, "all MaxQty", same(maxHistory, maxQty), most, 0, 0, 0)
	by := func(f func(t int) bool) []int {
		l := same(maxHistory, 0)
		for t := range l {
			if f(t) {
				l[t] = maxQty
			}
		}
		return l
	}
	wantQuarters(t, "even places", by(func(t int) bool { return t%2 == 0 }), most/2, 0, most/2, 0)
	wantQuarters(t, "odd places", by(func(t int) bool { return t%2 == 1 }), most/2, 0, complex(-most/2, 0), 0)
	wantQuarters(t, "each fourth", by(func(t int) bool { return t%4 == 1 }), most/4, complex(0, -most/4), complex(-most/4, 0), complex(0, most/4))
	// One number of 1 beside great ones is not lost.
	history := same(maxHistory, maxQty)
	history[4] = maxQty - 1
	wantQuarters(t, "all but one", history, most-1, complex(-1, 0), complex(-1, 0), complex(-1, 0))
}

// TestP17_9_Steps holds Strong against its steps, each rounded by itself, and sees to it that one rounding less would tell.
func TestP17_9_Steps(t *testing.T) {
	r := drawn(17)
	number := func() float64 {
		x := math.Ldexp(r.Float64(), []int{0, 10, 40, 511, 512, -520, -537}[r.Intn(7)])
		return math.Copysign(x, float64(r.Intn(2))-0.5)
	}
	tally := map[string]int{}
	for range 5000 {
		var q [4]complex128
		for k := range q {
			q[k] = complex(number(), number())
		}
		if r.Intn(5) == 0 {
			q[2] = complex(imag(q[1]), -real(q[1]))
		}
		one, two := steppedStrength(q[1]), steppedStrength(q[2])
		k, x := 1, one
		if two > one {
			k, x = 2, two
		}
		wantStrong(t, show(q), q, k, x)
		tally[fmt.Sprint(k)]++
		if one == two {
			tally["the same"]++
		}
		if math.IsInf(x, 1) {
			tally["infinite"]++
		}
		if c := q[k]; math.FMA(real(c), real(c), imag(c)*imag(c)) != x || math.FMA(imag(c), imag(c), real(c)*real(c)) != x {
			tally["told"]++
		}
	}
	must(t, tally, map[string]int{"1": 1000, "2": 1000, "the same": 100, "infinite": 20, "told": 100})
}

// TestP17_9_Edges: strengths that are the same, that come out infinite, and those that count for nothing.
func TestP17_9_Edges(t *testing.T) {
	inf := math.Inf(1)
	wantStrong(t, "zeros", [4]complex128{}, 1, 0)
	minus := math.Copysign(0, -1)
	wantStrong(t, "-0", [4]complex128{0, complex(minus, minus), complex(minus, minus), 0}, 1, 0)
	wantStrong(t, "1 alone", [4]complex128{0, complex(3, -4), 0, 0}, 1, 25)
	wantStrong(t, "2 alone", [4]complex128{0, 0, complex(-3, 4), 0}, 2, 25)
	wantStrong(t, "the same", [4]complex128{0, complex(3, 4), 5, 0}, 1, 25)
	wantStrong(t, "the same, turned round", [4]complex128{0, 5, complex(-4, -3), 0}, 1, 25)
	wantStrong(t, "a little more", [4]complex128{0, 5, complex(5, 1e-7), 0}, 2, 25.00000000000001)
	wantStrong(t, "so little more that it is none", [4]complex128{0, 5, complex(5, 1e-9), 0}, 1, 25)
	wantStrong(t, "0 and 3 have no part", [4]complex128{100, 1, 2, 100}, 2, 4)
	wantStrong(t, "0 and 3 have no part", [4]complex128{1e300, 2, 1, 1e300}, 1, 4)
	great := complex(math.MaxFloat64, 0)
	wantStrong(t, "1 infinite", [4]complex128{0, great, 7, 0}, 1, inf)
	wantStrong(t, "2 infinite", [4]complex128{0, 7, great, 0}, 2, inf)
	wantStrong(t, "both infinite", [4]complex128{0, great, great * 1i, 0}, 1, inf)
	wantStrong(t, "infinite together", [4]complex128{0, 0, complex(1e154, 1e154), 0}, 2, inf)
	wantStrong(t, "infinite elsewhere", [4]complex128{great, 1, 0, great}, 1, 1)
}

// TestP17_9_Wrong: a part of any of the four that is no number or infinite.
func TestP17_9_Wrong(t *testing.T) {
	for k := range 4 {
		for _, x := range []float64{math.NaN(), math.Inf(1), math.Inf(-1)} {
			for _, c := range []complex128{complex(x, 1), complex(1, x), complex(x, x), complex(x, 0), complex(0, x)} {
				q := [4]complex128{1, 2, 3, 4}
				q[k] = c
				noStrong(t, fmt.Sprint(q), q)
			}
		}
	}
	nan := math.NaN()
	noStrong(t, "all", [4]complex128{complex(nan, nan), complex(nan, nan), complex(nan, nan), complex(nan, nan)})
	q, _ := plan.Quarters(same(maxHistory, maxQty))
	wantStrong(t, "of quarters", q, 1, 0)
}
