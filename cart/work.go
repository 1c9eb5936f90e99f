package cart

import (
	"slices"

	"larder/api"
)

// work is a request on its way through the phases.
type work struct {
	handler int
	request api.Request // as it was asked
	normal  api.Request // with one line a code
	phase   int
	at      int // the number in the phase

	reply  api.Reply
	must   int    // the number that must be durable ahead of the reply
	behind func() // the way on behind Leave

	set     []int // the stripes whose locks it takes, rising
	tickets []int // of those of them that it has come to
	seen    []api.Line
	goods   []api.Level // what is to be added to the levels
	stripes []int       // those of its goods, or of a Read's codes: rising
	record  []byte
	promise int // operations of the disk
	lsn     int

	failures int
	counters []int       // of a Read: those of its stripes, as Seq found them
	levels   []api.Level // what it has looked at
	looked   int         // the moment of its last Look

	body []api.Write // of a Save
	head api.Write
}

// actions answers what is done in each phase. A handler that is idle has no work, so that none is asked for it.
func (m *Shared) actions() [api.PhaseSwitch + 1]func(*Shared, *work) {
	return [...]func(*Shared, *work){
		api.PhaseBegin:   (*Shared).begin,
		api.PhaseTicket:  (*Shared).ticket,
		api.PhaseEnter:   (*Shared).enter,
		api.PhaseCheck:   (*Shared).check,
		api.PhaseReserve: (*Shared).reserve,
		api.PhaseNumber:  (*Shared).number,
		api.PhaseAppend:  (*Shared).appendRecord,
		api.PhaseOdd:     (*Shared).odd,
		api.PhaseApply:   (*Shared).apply,
		api.PhaseNote:    (*Shared).note,
		api.PhaseEven:    (*Shared).even,
		api.PhaseLeave:   (*Shared).leave,
		api.PhaseWait:    (*Shared).wait,
		api.PhaseCollect: (*Shared).collect,
		api.PhaseWrite:   (*Shared).write,
		api.PhaseBarrier: (*Shared).barrier,
		api.PhaseReply:   (*Shared).tell,
		api.PhaseSeq:     (*Shared).seq,
		api.PhaseLook:    (*Shared).look,
		api.PhaseAgain:   (*Shared).again,
		api.PhaseRole:    (*Shared).role,
		api.PhaseBody:    (*Shared).writeBody,
		api.PhaseFence:   (*Shared).fence,
		api.PhaseHead:    (*Shared).writeHead,
		api.PhaseSwitch:  (*Shared).switchLife,
	}
}

// blockedOn answers what a request waits for that others do. (None is the flusher in a phase in which it may wait for one.)
func (m *Shared) blockedOn(w *work) int {
	switch w.phase {
	case api.PhaseEnter:
		if s := w.set[w.at]; !m.locks.Served(s, w.tickets[w.at]) {
			return s
		}
	case api.PhaseWait:
		if m.log.Durable() < w.must && m.flusher != none {
			return api.OnWater
		}
	case api.PhaseRole:
		if m.flusher != none {
			return api.OnRole
		}
	}
	return none
}

// to goes to a phase's number 0.
func (w *work) to(phase int) { w.phase, w.at = phase, 0 }

// next goes to the next of so many numbers in the phase; behind the last to another phase.
func (w *work) next(count, phase int) {
	w.at++
	if w.at >= count {
		w.to(phase)
	}
}

// toLocks goes for the locks of a set.
func (w *work) toLocks(set []int) {
	w.set, w.tickets = set, nil
	w.to(api.PhaseTicket)
}

// toLeave goes to leave the locks, the last one first.
func (w *work) toLeave() { w.phase, w.at = api.PhaseLeave, len(w.set)-1 }

// ticketOf answers the ticket for a stripe of the set.
func (w *work) ticketOf(stripe int) int {
	i, _ := slices.BinarySearch(w.set, stripe)
	return w.tickets[i]
}

// answered settles a reply, and that it is told when a number is durable.
func (w *work) answered(reply api.Reply, must int) {
	w.reply = reply
	w.behind = func() {
		w.must = must
		w.to(api.PhaseWait)
	}
}

// unbound settles a reply that hangs on nothing that is not safe.
func (w *work) unbound(reply api.Reply) {
	w.reply = reply
	w.behind = func() { w.to(api.PhaseReply) }
}

// anew settles that the request begins once more.
func (w *work) anew() {
	w.behind = func() { w.to(api.PhaseBegin) }
}

// refused answers the reply with an error.
func (w *work) refused(e api.Errno, line int) api.Reply {
	return api.Reply{Id: w.request.Id, Err: e, Line: line}
}

// mark notes a point of a request at the moment of a step.
func (m *Shared) mark(w *work, moment int) {
	at := len(m.points)
	for at > 0 && m.points[at-1].moment > moment {
		at--
	}
	m.points = slices.Insert(m.points, at, stamped{moment, api.Point{Handler: w.handler, Lsn: w.lsn}})
}

// point notes the point of a request at this step.
func (m *Shared) point(w *work) { m.mark(w, m.moment) }
