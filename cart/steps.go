package cart

import (
	"larder/api"
	"larder/mend"
)

func (m *Shared) ticket(w *work) {
	t, _ := m.locks.Ticket(w.set[w.at])
	w.tickets = append(w.tickets, t)
	w.phase = api.PhaseEnter
}

// enter goes on: whoever is not blocked has the lock.
func (m *Shared) enter(w *work) {
	w.phase = api.PhaseTicket
	w.next(len(w.set), api.PhaseCheck)
}

func (m *Shared) number(w *work) {
	w.lsn, _ = m.log.Number()
	m.promises[w.lsn] = w.promise
	w.to(api.PhaseAppend)
}

func (m *Shared) appendRecord(w *work) {
	m.log.Append(w.set[0], w.lsn, w.record)
	if len(w.goods) == 0 {
		w.to(api.PhaseNote)
		return
	}
	w.to(api.PhaseOdd)
}

func (m *Shared) odd(w *work) {
	s := w.stripes[w.at]
	m.locks.Odd(s, w.ticketOf(s))
	w.next(len(w.stripes), api.PhaseApply)
}

func (m *Shared) apply(w *work) {
	m.book.turn(w.goods[w.at])
	w.next(len(w.goods), api.PhaseNote)
}

func (m *Shared) even(w *work) {
	s := w.stripes[w.at]
	m.locks.Even(s, w.ticketOf(s))
	w.at++
	if w.at == len(w.stripes) {
		w.toLeave()
	}
}

func (m *Shared) leave(w *work) {
	m.locks.Leave(w.set[w.at], w.tickets[w.at])
	w.at--
	if w.at < 0 {
		w.behind()
	}
}

// wait goes on to the reply, if what it hangs on is safe; else the request makes it safe itself, since nobody else does.
func (m *Shared) wait(w *work) {
	if m.log.Durable() >= w.must {
		w.to(api.PhaseReply)
		return
	}
	m.flusher = w.handler
	w.to(api.PhaseCollect)
}

func (m *Shared) collect(w *work) {
	if n, _ := m.log.Collect(); n == 0 {
		m.flusher = none
		w.to(api.PhaseWait)
		return
	}
	w.to(api.PhaseWrite)
}

func (m *Shared) write(w *work) {
	if last, _ := m.log.Write(); last {
		w.to(api.PhaseBarrier)
	}
}

func (m *Shared) barrier(w *work) {
	safe := m.log.Durable()
	m.log.Barrier()
	for safe < m.log.Durable() {
		safe++
		m.promised -= m.promises[safe]
		delete(m.promises, safe)
	}
	if w.request.Kind == api.KindSave {
		w.to(api.PhaseBody)
		return
	}
	m.flusher = none
	w.to(api.PhaseWait)
}

func (m *Shared) tell(w *work) {
	m.handlers[w.handler] = handler{reply: w.reply, told: true}
}

func (m *Shared) seq(w *work) {
	if w.at == 0 {
		w.counters, w.levels = nil, nil
	}
	n := m.locks.Seq(w.stripes[w.at])
	if n%2 != 0 {
		m.failed(w)
		return
	}
	w.counters = append(w.counters, n)
	w.next(len(w.stripes), api.PhaseLook)
}

func (m *Shared) look(w *work) {
	w.levels = append(w.levels, m.book.level(w.normal.Lines[w.at].Code))
	w.looked = m.moment
	w.next(len(w.normal.Lines), api.PhaseAgain)
}

func (m *Shared) again(w *work) {
	s := w.stripes[w.at]
	if m.locks.Seq(s) != w.counters[w.at] {
		m.failed(w)
		return
	}
	w.must = max(w.must, m.last[s])
	w.next(len(w.stripes), api.PhaseWait)
	if w.phase == api.PhaseWait {
		w.reply = api.Reply{Id: w.request.Id, Levels: w.levels}
		m.mark(w, w.looked)
	}
}

// failed lets a Read try again; one that others come between too often goes by locks, so that it ends.
func (m *Shared) failed(w *work) {
	w.failures++
	if w.failures == api.MaxTries {
		w.toLocks(w.stripes)
		return
	}
	w.to(api.PhaseSeq)
}

func (m *Shared) role(w *work) {
	m.flusher = w.handler
	if m.log.Given() > m.log.Durable() {
		w.to(api.PhaseCollect)
		return
	}
	w.to(api.PhaseBody)
}

// writeBody lays the checkpoint out at its first sector: all locks are the Save's, so that the state stays as it is until the last.
func (m *Shared) writeBody(w *work) {
	if w.at == 0 {
		w.body, w.head, _ = mend.Layout(m.config, m.life+1, m.State())
	}
	m.disk.Write(w.body[w.at].Sector, w.body[w.at].Bytes)
	w.next(len(w.body), api.PhaseFence)
}

func (m *Shared) fence(w *work) {
	m.disk.Flush()
	w.to(api.PhaseHead)
}

func (m *Shared) writeHead(w *work) {
	m.disk.Write(w.head.Sector, w.head.Bytes)
	w.to(api.PhaseSwitch)
}

func (m *Shared) switchLife(w *work) {
	m.disk.Flush()
	m.life++
	m.log = m.logFrom(m.log.Given())
	m.flusher = none
	w.toLeave()
}
