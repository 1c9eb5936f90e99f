package plan

import (
	"cmp"
	"iter"

	"larder/api"
)

// isSquare says whether there is a number from each stop to each, and all of them are ones that there can be.
func isSquare(far [][]int) bool {
	for _, row := range far {
		if len(row) != len(far) {
			return false
		}
		for _, n := range row {
			if n < 0 || n > api.MaxFar {
				return false
			}
		}
	}
	return true
}

// stops is a set of stops without 0, where each way begins and ends: stop 1 is its lowest bit.
type stops uint

func (s stops) has(stop int) bool { return s>>(stop-1)&1 == 1 }

func (s stops) without(stop int) stops { return s &^ (1 << (stop - 1)) }

// way is a way through some stops and back to 0: its length, and its first stop.
type way struct{ length, next int }

// shorter puts the way with the lesser first stop ahead of others that are as long: so the whole order is the least one.
func shorter(a, b way) bool {
	return cmp.Or(a.length-b.length, a.next-b.next) < 0
}

// ways are the best ways through each set of stops, from each stop.
type ways [1 << (api.MaxStops - 1)][api.MaxStops]way

// shortest answers the order of all stops whose way is the shortest, and its length.
func shortest(far [][]int) ([]int, int) {
	var best ways
	var from func(at int, left stops) way
	from = func(at int, left stops) way {
		if left == 0 {
			return way{length: home(far, at)}
		}
		// No way through stops is the zero value, since 0 is not its first one.
		if best[left][at] == (way{}) {
			best[left][at] = least(onward(far, at, left, from), shorter)
		}
		return best[left][at]
	}
	left := stops(1)<<(len(far)-1) - 1
	whole := from(0, left)
	order := []int{0}
	for w := whole; left != 0; w = from(w.next, left) {
		order = append(order, w.next)
		left = left.without(w.next)
	}
	return order, whole.length
}

// onward goes over the ways from a stop through those that are left, one for each that may be the first of them: behind it the way is the best one.
func onward(far [][]int, at int, left stops, from func(at int, left stops) way) iter.Seq[way] {
	return func(yield func(way) bool) {
		for next := 1; next < len(far); next++ {
			if !left.has(next) {
				continue
			}
			behind := from(next, left.without(next))
			if !yield(way{far[at][next] + behind.length, next}) {
				return
			}
		}
	}
}

// home answers how far it is back to 0, which is nothing from 0 itself.
func home(far [][]int, at int) int {
	if at == 0 {
		return 0
	}
	return far[at][0]
}
