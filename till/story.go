package till

import (
	"maps"
	"slices"

	"larder/api"
)

// asking is a request that was asked of a handler.
type asking struct {
	op      api.Op
	handler int
}

// askingOf answers a request that is at work from a moment on.
func askingOf(h int, r api.Request, moment int) asking {
	return asking{api.Op{Request: copiedRequest(r), Begin: moment, End: api.MaxMoment, Open: true}, h}
}

// answer writes the reply down.
func (a *asking) answer(r api.Reply, moment int) {
	a.op.Reply, a.op.End, a.op.Open = r, moment, false
}

// isBusy says whether it was told that nothing was done: then it is no op. (No ledger answers so.)
func (a asking) isBusy() bool { return a.op.Reply.Err == api.ErrBusy }

// lastOf answers the request that a handler was asked last.
func (n *engine) lastOf(h int) *asking {
	at := len(n.asked) - 1
	for n.asked[at].handler != h {
		at--
	}
	return &n.asked[at]
}

// turns answers by handler the places of this life's requests, in the order in which they have their points. Those that were told ErrBusy have none.
func (n *engine) turns() map[int][]int {
	turns := make(map[int][]int)
	for at := n.first; at < len(n.asked); at++ {
		if a := n.asked[at]; !a.isBusy() {
			turns[a.handler] = append(turns[a.handler], at)
		}
	}
	return turns
}

// order answers the places of those requests of this life that were answered, or have an effect that is noted and whose number is at most safe, by their points.
func (n *engine) order(safe int) []int {
	var order []int
	turns := n.turns()
	for _, p := range n.Points() {
		at := turns[p.Handler][0]
		turns[p.Handler] = turns[p.Handler][1:]
		if !n.asked[at].op.Open || p.Lsn > 0 && p.Lsn <= safe {
			order = append(order, at)
		}
	}
	return order
}

// cutOff writes down how this life ends at this moment, if what comes back has the effects up to the number safe.
func (n *engine) cutOff(safe int) {
	n.ended = append(n.ended, n.order(safe)...)
	points := n.Points()
	unseen := make(map[int]int)
cut:
	for at := n.first; at < len(n.asked); at++ {
		a := &n.asked[at]
		if !a.op.Open {
			continue cut
		}
		a.op.End = n.moment
		lsn := n.Number(a.handler)
		if lsn == 0 || lsn > safe {
			continue cut
		}
		for _, p := range points {
			if p.Lsn == lsn {
				continue cut
			}
		}
		// Its record was safe ahead of its Note: nobody has seen its effect in this life, and all will in the next.
		unseen[lsn] = at
	}
	for _, lsn := range slices.Sorted(maps.Keys(unseen)) {
		n.ended = append(n.ended, unseen[lsn])
	}
	n.first = len(n.asked)
}

// story answers all that was written down.
func (n *engine) story() api.Story {
	s := api.Story{State: n.State(), Lives: n.lives, Moment: n.moment}
	numbers := make([]int, len(n.asked))
	for at, a := range n.asked {
		if a.isBusy() {
			s.Busy++
			continue
		}
		numbers[at] = len(s.Ops)
		s.Ops = append(s.Ops, copiedOp(a.op))
	}
	for _, at := range slices.Concat(n.ended, n.order(api.MaxLsn)) {
		s.Order = append(s.Order, numbers[at])
	}
	return s
}
