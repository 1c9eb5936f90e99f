package lin

import (
	"slices"

	"larder/api"
)

// Lists that are nil and lists that are empty are the same here.

func sameReply(x, y api.Reply) bool {
	return x.Id == y.Id && x.Err == y.Err && x.Line == y.Line && slices.Equal(x.Levels, y.Levels) && x.Now == y.Now
}

func sameRequest(q, r api.Request) bool {
	return q.Id == r.Id && q.Kind == r.Kind && slices.Equal(q.Lines, r.Lines) && q.Hold == r.Hold && q.Ttl == r.Ttl && q.Now == r.Now
}

func sameHeld(h, k api.Held) bool {
	return h.Id == k.Id && slices.Equal(h.Lines, k.Lines) && h.Deadline == k.Deadline
}

func sameDone(d, e api.Done) bool { return d.At == e.At && sameRequest(d.Request, e.Request) }

func sameState(s, u api.State) bool {
	return s.Room == u.Room && s.Lsn == u.Lsn && s.Now == u.Now && slices.Equal(s.Levels, u.Levels) &&
		slices.EqualFunc(s.Holds, u.Holds, sameHeld) && slices.EqualFunc(s.Done, u.Done, sameDone)
}
