package desk

import "larder/api"

// nobody is the command of a request that no command brought, and the place of one that is of no document, or of one that is done with.
const nobody = -1

// asking is a request that came to a desk.
type asking struct {
	request api.Request
	command int // the number of the command that brought it
	place   int // its place among the requests of a document
}

// queue is what is to be done at a desk.
type queue struct {
	waiting []asking
	work    asking // what the handler has at work, if it is not idle
}

// first takes the first one that waits.
func (q *queue) first() asking {
	x := q.waiting[0]
	q.waiting[0] = asking{}
	q.waiting = q.waiting[1:]
	return x
}

// teller is told the replies, as they come, with the handler and what it was asked.
type teller func(h int, x asking, r api.Reply)

func tellNobody(int, asking, api.Reply) {}

// isIdle says whether a handler has no request at work.
func (d *Desk) isIdle(h int) bool {
	phase, _ := d.till.Phase(h)
	return phase == api.PhaseIdle
}

// isAtRest says whether no handler is at work and nothing waits.
func (d *Desk) isAtRest() bool {
	for h := range d.queues {
		if len(d.queues[h].waiting) > 0 || !d.isIdle(h) {
			return false
		}
	}
	return true
}

// pick lets a desk do its next step, and answers whether there was one.
func (d *Desk) pick(h int, tell teller) bool {
	q := &d.queues[h]
	wasIdle := d.isIdle(h)
	if wasIdle && len(q.waiting) > 0 {
		d.start(h, q.first(), tell)
		return true
	}
	went := d.till.Pick(h)
	if !wasIdle && d.isIdle(h) {
		r, _ := d.till.Reply(h)
		tell(h, q.work, r)
		q.work = asking{}
	}
	return went
}

// start gives a handler a request; one that the till does not take has ended with that.
func (d *Desk) start(h int, x asking, tell teller) {
	if e := d.till.Ask(h, x.request); e != api.OK {
		tell(h, x, api.Reply{Id: x.request.Id, Err: e})
		return
	}
	d.queues[h].work = x
}

// run picks the desks in turn, until nothing is to be done, at most so often, and answers how often.
func (d *Desk) run(most int, tell teller) int {
	made, still := 0, 0
	for made < most && !d.isAtRest() {
		// A round in which nobody went on leaves all as it was: so would each that follows.
		if still == len(d.queues) {
			return most
		}
		still++
		if d.pick(made%len(d.queues), tell) {
			still = 0
		}
		made++
	}
	return made
}

// ask lets the requests of a document wait at the desks in turn, runs the store ahead of that and behind it, and answers the replies: ErrBusy for those that have not ended.
func (d *Desk) ask(list []api.Request) []api.Reply {
	d.run(api.MaxRun, tellNobody)
	replies := make([]api.Reply, len(list))
	for i, r := range list {
		replies[i].Err = api.ErrBusy
		q := &d.queues[i%len(d.queues)]
		q.waiting = append(q.waiting, asking{r, nobody, i})
	}
	d.run(api.MaxRun, func(_ int, x asking, r api.Reply) {
		if x.place != nobody {
			replies[x.place] = r
		}
	})
	d.forget()
	return replies
}

// forget lets nothing of a document wait any more; what of it is at work has nobody to be told to.
func (d *Desk) forget() {
	for h := range d.queues {
		q := &d.queues[h]
		var rest []asking
		for _, x := range q.waiting {
			if x.place == nobody {
				rest = append(rest, x)
			}
		}
		q.waiting = rest
		q.work.place = nobody
	}
}
