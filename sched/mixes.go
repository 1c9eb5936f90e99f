package sched

import (
	"iter"
	"math/bits"
	"slices"

	"larder/api"
)

// maxCount is the greatest number of mixes that is told.
const maxCount = 1 << 62

// Mixes goes over all mixes of steps, in order.
func Mixes(steps []int) iter.Seq[[]int] {
	// No list of MaxDepth picks has more switches than places.
	return Few(steps, api.MaxDepth)
}

// Count answers how many mixes of steps there are.
func Count(steps []int) (int, api.Errno) {
	if !areSteps(steps) {
		return 0, api.ErrArg
	}
	count, places := 1, 0
	for _, n := range steps {
		places += n
		c := chosen(places, n)
		if c > maxCount/count {
			return 0, api.ErrLarge
		}
		count *= c
	}
	return count, api.OK
}

// Nth answers the mix of steps that has n others ahead of it.
func Nth(steps []int, n int) ([]int, api.Errno) {
	count, e := Count(steps)
	if e != api.OK {
		return nil, e
	}
	if n < 0 || n >= count {
		return nil, api.ErrArg
	}
	r := rest{slices.Clone(steps), sum(steps), count}
	var picks []int
	for r.places > 0 {
		h := 0
		for n >= r.beginning(h) {
			n -= r.beginning(h)
			h++
		}
		r.take(h)
		picks = append(picks, h)
	}
	return picks, api.OK
}

// Rank answers how many mixes of the same steps are ahead of picks.
func Rank(picks []int) (int, api.Errno) {
	if !areBelow(picks, api.MaxHandlers) || len(picks) > api.MaxDepth {
		return 0, api.ErrArg
	}
	steps := make([]int, api.MaxHandlers)
	for _, h := range picks {
		steps[h]++
	}
	count, e := Count(steps)
	if e != api.OK {
		return 0, e
	}
	r := rest{steps, len(picks), count}
	rank := 0
	for _, pick := range picks {
		for h := range pick {
			rank += r.beginning(h)
		}
		r.take(pick)
	}
	return rank, api.OK
}

// rest is what is still to be picked of a mix whose beginning is known.
type rest struct {
	left   []int // the steps of each handler
	places int   // all of them together
	mixes  int   // how many mixes they have
}

// beginning answers how many mixes of the rest begin with a handler: as great a part of them as its steps are of all steps.
func (r *rest) beginning(h int) int {
	// The product may be greater than any int, what it comes to in the end is not.
	high, low := bits.Mul64(uint64(r.mixes), uint64(r.left[h]))
	part, _ := bits.Div64(high, low, uint64(r.places))
	return int(part)
}

func (r *rest) take(h int) {
	r.mixes = r.beginning(h)
	r.left[h]--
	r.places--
}

func areSteps(steps []int) bool {
	if !isCount(len(steps)) {
		return false
	}
	room := api.MaxDepth
	for _, n := range steps {
		if n < 0 || n > room {
			return false
		}
		room -= n
	}
	return true
}

// chosen answers in how many ways n of so many places are chosen.
func chosen(places, n int) int {
	c := 1
	for i := 1; i <= n; i++ {
		c = c * (places - n + i) / i
	}
	return c
}

func sum(steps []int) int {
	total := 0
	for _, n := range steps {
		total += n
	}
	return total
}
