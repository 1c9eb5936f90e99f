package plan

import (
	"cmp"
	"iter"
	"math/bits"
	"slices"

	"larder/api"
)

// amounts are how many goods there are of each line of an order. Behind its last line stand zeros, so that two of them can be held against each other.
type amounts [api.MaxOrder]int

// both answers of each line as much as is in the one and in the other.
func (a amounts) both(b amounts) amounts {
	for i := range a {
		a[i] = min(a[i], b[i])
	}
	return a
}

// without answers what is left of each line where others are taken away.
func (a amounts) without(b amounts) amounts {
	for i := range a {
		a[i] = max(a[i]-b[i], 0)
	}
	return a
}

// shelves are what depots have of that which an order wants.
type shelves struct {
	order []api.Line
	want  amounts
	far   []int
	have  []amounts
}

func shelvesOf(order []api.Line, depots []api.Depot) shelves {
	s := shelves{order: order}
	for i, l := range order {
		s.want[i] = l.Qty
	}
	for _, d := range depots {
		s.far = append(s.far, d.Far)
		s.have = append(s.have, found(order, d.Stock))
	}
	return s
}

// found answers what a depot's stock has of each line of an order.
func found(order, stock []api.Line) amounts {
	var have amounts
	for i, l := range order {
		at, there := slices.BinarySearchFunc(stock, l.Code, func(s api.Line, code string) int { return cmp.Compare(s.Code, code) })
		if there {
			have[i] = stock[at].Qty
		}
	}
	return have
}

// short answers the place of the first line that all depots together have not enough of, and whether there is one.
func (s shelves) short() (int, bool) {
	left := s.want
	for _, have := range s.have {
		left = left.without(have)
	}
	for i, n := range left {
		if n > 0 {
			return i, true
		}
	}
	return 0, false
}

// choice is some of the depots, each the bit of its place, and how far away they are together.
type choice struct {
	depots uint
	far    int
}

func better(a, b choice) bool {
	return cmp.Or(bits.OnesCount(a.depots)-bits.OnesCount(b.depots), a.far-b.far) < 0
}

// choices goes over the choices that are enough, but for those that are enough without their last depot, which have not the fewest. Of those with as many depots the one whose list of places is less comes first, so that of several that are alike it is the first that counts.
func (s shelves) choices() iter.Seq[choice] {
	return func(yield func(choice) bool) {
		var choose func(c choice, from int, left amounts) bool
		choose = func(c choice, from int, left amounts) bool {
			if left == (amounts{}) {
				return yield(c)
			}
			for i := from; i < len(s.have); i++ {
				more := choice{c.depots | 1<<i, c.far + s.far[i]}
				if !choose(more, i+1, left.without(s.have[i])) {
					return false
				}
			}
			return true
		}
		choose(choice{}, 0, s.want)
	}
}

// parcels answers what each depot of a choice sends.
func (s shelves) parcels(c choice) []api.Parcel {
	var parcels []api.Parcel
	left := s.want
	for _, i := range s.nearestFirst(c) {
		parcels = append(parcels, api.Parcel{Depot: i, Lines: s.lines(left.both(s.have[i]))})
		left = left.without(s.have[i])
	}
	return parcels
}

// nearestFirst answers the places of a choice's depots in the order in which they take their parts.
func (s shelves) nearestFirst(c choice) []int {
	var places []int
	for i := range s.far {
		if c.depots>>i&1 == 1 {
			places = append(places, i)
		}
	}
	slices.SortStableFunc(places, func(i, j int) int { return cmp.Compare(s.far[i], s.far[j]) })
	return places
}

// lines answers the lines of a parcel that takes so much of the order.
func (s shelves) lines(take amounts) []api.Line {
	var lines []api.Line
	for i, l := range s.order {
		if take[i] > 0 {
			lines = append(lines, api.Line{Code: l.Code, Qty: take[i]})
		}
	}
	return lines
}
