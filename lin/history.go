package lin

import (
	"slices"

	"larder/api"
	"larder/stock"
)

// played answers the ledger behind an order, and whether it is an order that fits.
func played(ops []api.Op, order []int, start api.State) (*stock.Ledger, bool, api.Errno) {
	if e, _ := Check(ops); e != api.OK {
		return nil, false, e
	}
	l, e := stock.From(start)
	if e != api.OK {
		return nil, false, e
	}
	if !isOrder(ops, order) {
		return nil, false, api.OK
	}
	for _, i := range order {
		if reply := l.Do(ops[i].Request); !agrees(ops[i], reply) {
			return nil, false, api.OK
		}
	}
	return l, true, api.OK
}

// isOrder says whether a list is an order of a history.
func isOrder(ops []api.Op, order []int) bool {
	stands := make([]bool, len(ops))
	latest := 0 // of all Begins so far: what has ended ahead of it comes too late
	for _, i := range order {
		if i < 0 || i >= len(ops) || stands[i] || ops[i].End < latest {
			return false
		}
		stands[i] = true
		latest = max(latest, ops[i].Begin)
	}
	for i, o := range ops {
		if !o.Open && !stands[i] {
			return false
		}
	}
	return true
}

// agrees says whether a ledger's reply is the one that was told; nobody was told that of an Open op.
func agrees(o api.Op, reply api.Reply) bool { return o.Open || sameReply(o.Reply, reply) }

// told answers the moments at which there were answers, rising. At no other can a history go wrong: whoever only asks, or is cut off, may be left out of an order, and bars nobody who has not been asked yet.
func told(ops []api.Op) []int {
	var moments []int
	for _, o := range ops {
		if !o.Open {
			moments = append(moments, o.End)
		}
	}
	slices.Sort(moments)
	return slices.Compact(moments)
}

// seenAt answers an op as it was seen when a moment had passed.
func seenAt(o api.Op, moment int) api.Op {
	if o.End > moment {
		o.Reply, o.End, o.Open = api.Reply{}, api.MaxMoment, true
	}
	return o
}

func copied(o api.Op) api.Op {
	o.Request.Lines = slices.Clone(o.Request.Lines)
	o.Reply.Levels = slices.Clone(o.Reply.Levels)
	return o
}
