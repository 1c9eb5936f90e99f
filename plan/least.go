package plan

import "iter"

// least answers the first of all those that no other is less than; the zero value, if there are none.
func least[T any](all iter.Seq[T], less func(a, b T) bool) T {
	var best T
	some := false
	for x := range all {
		if !some || less(x, best) {
			best, some = x, true
		}
	}
	return best
}
