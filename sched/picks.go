package sched

import (
	"iter"
	"slices"

	"larder/api"
)

// Fair says whether each handler stands among any k picks one behind the other, or where the first k begin that lack one.
func Fair(picks []int, handlers, k int) (bool, int) {
	if !isCount(handlers) || k < 1 || len(picks) > api.MaxPicks || !areBelow(picks, handlers) {
		return false, -1
	}
	// The number of picks up to the last one of each handler, that one included.
	last := make([]int, handlers)
	for i, h := range picks {
		last[h] = i + 1
		begin := i + 1 - k
		if begin >= 0 && slices.Min(last) <= begin {
			return false, begin
		}
	}
	return true, 0
}

// Rounds goes over MaxPicks picks, the handlers in turn.
func Rounds(handlers int) iter.Seq[int] {
	if !isCount(handlers) {
		return nothing[int]
	}
	return func(yield func(int) bool) {
		for i := range api.MaxPicks {
			if !yield(i % handlers) {
				return
			}
		}
	}
}

// Mixed goes over MaxPicks picks that are k-fair, mixed as the seed says.
func Mixed(seed uint64, handlers, k int) iter.Seq[int] {
	if !isCount(handlers) || k < 2*handlers-1 || k > api.MaxFair {
		return nothing[int]
	}
	return func(yield func(int) bool) {
		m := mixer{seed}
		// Any k picks have a whole block among them, and in it each handler.
		block := make([]int, (k+1)/2)
		for i := range api.MaxPicks {
			place := i % len(block)
			if place == 0 {
				m.fill(block, handlers)
			}
			if !yield(block[place]) {
				return
			}
		}
	}
}

// All goes over all lists of depth numbers below handlers, in order.
func All(handlers, depth int) iter.Seq[[]int] {
	if !isCount(handlers) || depth < 0 || depth > api.MaxDepth {
		return nothing[[]int]
	}
	lists := 1
	for range depth {
		// Ahead of the next factor: all of them together may be too great for an int.
		if lists > api.MaxAll {
			break
		}
		lists *= handlers
	}
	if lists > api.MaxAll {
		return nothing[[]int]
	}
	return func(yield func([]int) bool) {
		for n := range lists {
			if !yield(digits(n, handlers, depth)) {
				return
			}
		}
	}
}

// digits answers the last depth digits of a number in a base, the highest one first: numbers one behind the other have them in order as lists.
func digits(n, base, depth int) []int {
	list := make([]int, depth)
	for i := depth - 1; i >= 0; i-- {
		list[i] = n % base
		n /= base
	}
	return list
}

// mixer draws numbers that hang on its seed alone.
type mixer struct{ state uint64 }

func (m *mixer) draw(n int) int {
	m.state += 0x9e3779b97f4a7c15
	z := m.state
	z = (z ^ z>>30) * 0xbf58476d1ce4e5b9
	z = (z ^ z>>27) * 0x94d049bb133111eb
	z ^= z >> 31
	return int(z % uint64(n))
}

// fill lays each handler into a block once, draws for the other places, and shuffles them.
func (m *mixer) fill(block []int, handlers int) {
	for i := range block {
		if i < handlers {
			block[i] = i
		} else {
			block[i] = m.draw(handlers)
		}
	}
	for i := len(block) - 1; i >= 1; i-- {
		j := m.draw(i + 1)
		block[i], block[j] = block[j], block[i]
	}
}

func areBelow(picks []int, handlers int) bool {
	for _, h := range picks {
		if h < 0 || h >= handlers {
			return false
		}
	}
	return true
}

func nothing[T any](func(T) bool) {}
