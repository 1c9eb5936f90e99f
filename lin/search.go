package lin

import (
	"iter"
	"slices"

	"larder/api"
	"larder/stock"
)

// searched says why a history is not searched for orders that fit from a state, if it is not.
func searched(ops []api.Op, start api.State) api.Errno {
	if e, _ := Check(ops); e != api.OK {
		return e
	}
	switch {
	case len(ops) > api.MaxSearch:
		return api.ErrTooLarge
	case !stock.Sound(start):
		return api.ErrState
	}
	return api.OK
}

// branch is how a ledger stands behind the beginning of an order.
type branch struct {
	ledger *stock.Ledger
	state  api.State
}

func branchOf(s api.State) branch {
	// No search begins with a state that is not sound, and no ledger comes to one.
	l, _ := stock.From(s)
	return branch{l, s}
}

// behind answers the branch behind one more op, and whether the ledger gives that op's reply. The ledger itself stays as it is, since other ops are tried on it.
func (b branch) behind(o api.Op) (branch, bool) {
	reply := b.ledger.Would(o.Request)
	if !agrees(o, reply) {
		return branch{}, false
	}
	if reply.Err != api.OK || !stock.Changes(o.Request.Kind) {
		return b, true
	}
	next := branchOf(b.state)
	next.ledger.Do(o.Request)
	next.state = next.ledger.State()
	return next, true
}

// hunt is the search for an order that fits.
type hunt struct {
	ops []api.Op
	// By the ops of a beginning: the state that it came to when it was last gone on from. The same ops with the same state have the same orders behind them, so that these need not be tried once more. (One state alone, so that what is kept stays small.)
	tried map[uint]api.State
}

// next answers the branch behind op i, if the ops of stand are all that has its place then; false, if no order that fits can begin so.
func (h hunt) next(b branch, i int, stand uint) (branch, bool) {
	after, good := b.behind(h.ops[i])
	if !good {
		return branch{}, false
	}
	if s, there := h.tried[stand]; there && sameState(s, after.state) {
		return branch{}, false
	}
	h.tried[stand] = after.state
	return after, true
}

// field is what the orders of a history hang on. It holds no op, so that whoever handed the history in may write over it. Ops are bits of a uint, since only a few are searched.
type field struct {
	ahead    []uint // of each op, those that are Ahead of it
	answered uint
}

func fieldOf(ops []api.Op) field {
	f := field{ahead: make([]uint, len(ops))}
	for i, o := range ops {
		if !o.Open {
			f.answered |= 1 << i
		}
		for j, p := range ops {
			if Ahead(p, o) {
				f.ahead[i] |= 1 << j
			}
		}
	}
	return f
}

// next answers the ops that may come behind those that stand: none that is late, being Ahead of one that stands; none for which an answered op would be late.
func (f field) next(stand, late uint) uint {
	var next uint
	for i := range len(f.ahead) {
		bit := uint(1) << i
		if (stand|late)&bit == 0 && f.ahead[i]&f.answered&^stand == 0 {
			next |= bit
		}
	}
	return next
}

// orders goes over the orders, least first. then answers the branch behind op i, if the ops of stand are all that has its place then, and whether orders that begin so are wanted.
func (f field) orders(first branch, then func(b branch, i int, stand uint) (branch, bool)) iter.Seq[[]int] {
	return func(yield func([]int) bool) {
		var order []int
		var extend func(b branch, stand, late uint) bool
		extend = func(b branch, stand, late uint) bool {
			if f.answered&^stand == 0 && !yield(slices.Clone(order)) {
				return false
			}
			next := f.next(stand, late)
			for i := range len(f.ahead) {
				if next>>i&1 == 0 {
					continue
				}
				after, wanted := then(b, i, stand|1<<i)
				if !wanted {
					continue
				}
				order = append(order, i)
				if !extend(after, stand|1<<i, late|f.ahead[i]) {
					return false
				}
				order = order[:len(order)-1]
			}
			return true
		}
		extend(first, 0, 0)
	}
}
