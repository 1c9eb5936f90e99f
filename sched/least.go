package sched

import (
	"slices"

	"larder/api"
)

// Least answers the first in order of all lists that come from picks by letting neighbours that are apart change places.
func Least(picks []int, apart []api.Pair) ([]int, api.Errno) {
	if len(picks) > api.MaxLeast || len(apart) > api.MaxHandlers*api.MaxHandlers {
		return nil, api.ErrLong
	}
	if !areBelow(picks, api.MaxHandlers) {
		return nil, api.ErrArg
	}
	for _, p := range apart {
		if !areBelow([]int{p.A, p.B}, api.MaxHandlers) {
			return nil, api.ErrArg
		}
	}
	bars := barred(apart)
	rest := slices.Clone(picks)
	var least []int
	for len(rest) > 0 {
		i := lowestFree(rest, bars)
		least = append(least, rest[i])
		rest = slices.Delete(rest, i, i+1)
	}
	return least, api.OK
}

// barred answers of each handler, as binary digits, those whose picks can't come ahead of a pick of it: itself, and all that it is not apart from.
func barred(apart []api.Pair) [api.MaxHandlers]uint {
	var bars [api.MaxHandlers]uint
	for h := range bars {
		bars[h] = 1<<api.MaxHandlers - 1
	}
	for _, p := range apart {
		if p.A != p.B {
			bars[p.A] &^= 1 << p.B
			bars[p.B] &^= 1 << p.A
		}
	}
	return bars
}

// lowestFree answers the place of the lowest pick that can come first.
func lowestFree(rest []int, bars [api.MaxHandlers]uint) int {
	lowest := 0
	var behind uint // the handlers that the picks so far keep behind them
	for i, h := range rest {
		if behind>>h&1 == 0 && h < rest[lowest] {
			lowest = i
		}
		behind |= bars[h]
	}
	return lowest
}
