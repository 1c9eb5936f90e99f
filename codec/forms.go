package codec

import "larder/api"

// The first byte of each thing, by which none is taken for another.
const (
	requestKey = 81
	replyKey   = 82
	recordKey  = 83
	stateKey   = 84
)

// carrier takes a thing's fields, in their order, into bytes or out of them; so each form stands here once for both ways.
type carrier interface {
	key(k byte)
	whole(n *int)
	text(s *string)
	count(n int) int
}

func request(c carrier, r *api.Request) {
	c.key(requestKey)
	requestFields(c, r)
}

func reply(c carrier, r *api.Reply) {
	c.key(replyKey)
	c.text(&r.Id)
	err := int(r.Err)
	c.whole(&err)
	r.Err = api.Errno(err)
	c.whole(&r.Line)
	levels(c, &r.Levels)
	c.whole(&r.Now)
}

func record(c carrier, r *api.Record) {
	c.key(recordKey)
	c.whole(&r.Lsn)
	requestFields(c, &r.Request)
}

func state(c carrier, s *api.State) {
	c.key(stateKey)
	c.whole(&s.Room)
	c.whole(&s.Lsn)
	c.whole(&s.Now)
	levels(c, &s.Levels)
	list(c, &s.Holds, func(h *api.Held) {
		c.text(&h.Id)
		lines(c, &h.Lines)
		c.whole(&h.Deadline)
	})
	list(c, &s.Done, func(d *api.Done) {
		requestFields(c, &d.Request)
		c.whole(&d.At)
	})
}

func requestFields(c carrier, r *api.Request) {
	c.text(&r.Id)
	c.whole(&r.Kind)
	lines(c, &r.Lines)
	c.text(&r.Hold)
	c.whole(&r.Ttl)
	c.whole(&r.Now)
}

func lines(c carrier, all *[]api.Line) {
	list(c, all, func(l *api.Line) {
		c.text(&l.Code)
		c.whole(&l.Qty)
	})
}

func levels(c carrier, all *[]api.Level) {
	list(c, all, func(l *api.Level) {
		c.text(&l.Code)
		c.whole(&l.OnHand)
		c.whole(&l.Held)
	})
}

// list carries how many elements there are, and each of them by the function that is handed in.
func list[T any](c carrier, all *[]T, element func(*T)) {
	for i := range c.count(len(*all)) {
		// A list that is read grows as its elements come: its number may claim more than there are.
		if i == len(*all) {
			var next T
			*all = append(*all, next)
		}
		element(&(*all)[i])
	}
}
