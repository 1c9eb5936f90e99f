package plan

import (
	"math"

	"larder/api"
)

// A product that goes into a sum is made a float64 here, though it is one: else a machine that can multiply and add at once would round but once.

// checked says why a list is no history, if it is none.
func checked(history []int) api.Errno {
	if len(history) > api.MaxHistory {
		return api.ErrLong
	}
	for _, n := range history {
		if !within(n, 0) {
			return api.ErrNumber
		}
	}
	return api.OK
}

// spread answers the mean of some numbers, and the root of the mean of the squares of how far they lie from it.
func spread(history []int) (mean, dev float64) {
	sum := 0
	for _, n := range history {
		sum += n
	}
	count := float64(len(history))
	mean = float64(sum) / count
	squares := 0.0
	for _, n := range history {
		off := float64(n) - mean
		squares += float64(off * off)
	}
	return mean, math.Sqrt(squares / count)
}

func smoothed(history []int, weight float64) []float64 {
	rest := 1 - weight
	var smooth []float64
	for i, n := range history {
		x := float64(n)
		if i > 0 {
			x = float64(weight*x) + float64(rest*smooth[i-1])
		}
		smooth = append(smooth, x)
	}
	return smooth
}

// upTo says whether x is from 0 to most; whatever is no number is not.
func upTo(x, most float64) bool { return x >= 0 && x <= most }

// demand answers how many goods go in the time of a need's lead, with something put by.
func demand(n api.Need) float64 {
	lead := float64(n.Lead)
	safe := float64(n.Z*n.Dev) * math.Sqrt(lead)
	return float64(n.Mean*lead) + float64(safe)
}

// turns are the powers of -i, the 0-th first: the real part and the imaginary part.
var turns = [4][2]int{{1, 0}, {0, -1}, {-1, 0}, {0, 1}}

// quarter answers the k-th quarter of a history. Its parts are whole numbers until the end, so that none of them is -0.
func quarter(history []int, k int) complex128 {
	re, im := 0, 0
	for t, n := range history {
		turn := turns[k*t%4]
		re += turn[0] * n
		im += turn[1] * n
	}
	return complex(float64(re), float64(im))
}

func isFinite(x float64) bool { return !math.IsNaN(x) && !math.IsInf(x, 0) }

func strength(c complex128) float64 {
	return float64(real(c)*real(c)) + float64(imag(c)*imag(c))
}
