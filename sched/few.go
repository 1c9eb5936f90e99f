package sched

import (
	"iter"
	"slices"

	"larder/api"
)

// Switches answers how often a handler is put aside while it has steps left.
func Switches(picks []int) (int, api.Errno) {
	if !areBelow(picks, api.MaxHandlers) {
		return 0, api.ErrArg
	}
	if len(picks) > api.MaxPicks {
		return 0, api.ErrLong
	}
	left := make([]int, api.MaxHandlers)
	for _, h := range picks {
		left[h]++
	}
	switches, last := 0, -1
	for _, h := range picks {
		if putsAside(left, last, h) {
			switches++
		}
		left[h]--
		last = h
	}
	return switches, api.OK
}

// Few goes over the mixes of steps that have at most so many switches, in order.
func Few(steps []int, most int) iter.Seq[[]int] {
	count, e := Count(steps)
	if e != api.OK || most < 0 || count > api.MaxAll {
		return nothing[[]int]
	}
	stood := slices.Clone(steps)
	return func(yield func([]int) bool) {
		// Each going over has its own: one may stand inside another.
		left, places := slices.Clone(stood), sum(stood)
		picks := make([]int, 0, places)
		var search func(last, most int) bool
		// No search is in vain: whoever is picked may go on to its end, then the others one by one, without a switch.
		search = func(last, most int) bool {
			if len(picks) == places {
				return yield(slices.Clone(picks))
			}
			for h := range left {
				spare := most
				if putsAside(left, last, h) {
					spare--
				}
				if left[h] == 0 || spare < 0 {
					continue
				}
				left[h]--
				picks = append(picks, h)
				more := search(h, spare)
				picks = picks[:len(picks)-1]
				left[h]++
				if !more {
					return false
				}
			}
			return true
		}
		search(-1, most)
	}
}

// putsAside says whether a pick of h behind one of last is a switch; last is -1 at the first place.
func putsAside(left []int, last, h int) bool {
	return last >= 0 && last != h && left[last] > 0
}
