package cart

import (
	"larder/api"
	"larder/codec"
	"larder/lock"
	"larder/stock"
	"larder/wal"
)

// begin answers what is not well formed, and settles the way of the rest.
func (m *Shared) begin(w *work) {
	n, e, line := stock.Normal(w.request)
	if e != api.OK {
		m.refuseAtOnce(w, e, line)
		return
	}
	w.normal = n
	if n.Kind != api.KindRead {
		w.toLocks(m.setOf(w))
		return
	}
	if line, all := m.book.unknown(w.request.Lines); !all {
		m.refuseAtOnce(w, api.ErrNoCode, line)
		return
	}
	w.stripes = lock.Set(codesOf(n.Lines), m.config.Stripes)
	w.to(api.PhaseSeq)
}

// refuseAtOnce answers an error that hangs on nothing that could turn.
func (m *Shared) refuseAtOnce(w *work, e api.Errno, line int) {
	w.reply = w.refused(e, line)
	m.point(w)
	w.to(api.PhaseReply)
}

// setOf answers the stripes that a request needs, and notes the lines of its hold that these are of: the hold may be another one when it has them.
func (m *Shared) setOf(w *work) []int {
	switch r := w.normal; r.Kind {
	case api.KindTick, api.KindSave:
		all := make([]int, m.config.Stripes)
		for s := range all {
			all[s] = s
		}
		return all
	case api.KindCommit, api.KindRelease, api.KindExtend:
		w.seen = m.book.holds[r.Hold].Lines
		return lock.Set(append(codesOf(w.seen), r.Id, r.Hold), m.config.Stripes)
	default:
		return lock.Set(append(codesOf(r.Lines), r.Id), m.config.Stripes)
	}
}

// check says what the request is answered, now that nobody else can turn what it is about.
func (m *Shared) check(w *work) {
	switch w.normal.Kind {
	case api.KindSave:
		m.checkSave(w)
		return
	case api.KindRead:
		m.answer(w, api.Reply{Id: w.request.Id, Levels: m.book.levelsOf(w.normal.Lines)}, m.greatest(w.set))
		return
	case api.KindCommit, api.KindRelease, api.KindExtend:
		if m.book.isOther(w.normal.Hold, w.seen) {
			w.anew()
			w.toLeave()
			return
		}
	}
	reply, judged := m.book.judge(w.request, w.normal)
	if judged {
		m.answer(w, reply, m.greatest(w.set))
		return
	}
	w.goods = m.book.goodsOf(w.normal)
	w.stripes = lock.Set(codesOfLevels(w.goods), m.config.Stripes)
	w.to(api.PhaseReserve)
}

// checkSave lets a Save in only if the disk has operations left for all of it, and its life can be counted.
func (m *Shared) checkSave(w *work) {
	if m.disk.Count()+m.promised+m.config.Slot+3 > api.MaxOps || m.life+1 == api.MaxLife {
		m.busy(w)
		return
	}
	w.unbound(api.Reply{Id: w.request.Id})
	m.point(w)
	w.to(api.PhaseRole)
}

// answer has a request's point, and sends it off with its reply.
func (m *Shared) answer(w *work, reply api.Reply, must int) {
	w.answered(reply, must)
	m.point(w)
	w.toLeave()
}

// busy sends a request off that nothing was done of.
func (m *Shared) busy(w *work) {
	w.unbound(w.refused(api.ErrBusy, 0))
	w.toLeave()
}

// greatest answers the number of the last effect on any of some stripes.
func (m *Shared) greatest(set []int) int {
	n := 0
	for _, s := range set {
		n = max(n, m.last[s])
	}
	return n
}

// reserve lets an effect in, if there is room for it and for all that were let in ahead of it, whatever becomes of these.
func (m *Shared) reserve(w *work) {
	more := added(w.normal)
	if e := m.book.spent(more); e != api.OK {
		m.answer(w, w.refused(e, 0), m.noted)
		return
	}
	// No request that is well formed has too many bytes for a record.
	w.record, _ = codec.PutRequest(w.normal)
	w.promise = wal.Need(len(w.record)) + 1
	if !m.hasRoom(more, w.promise) || m.log.Reserve(len(w.record)) != api.OK {
		m.busy(w)
		return
	}
	m.reserved = m.reserved.plus(more)
	m.promised += w.promise
	w.to(api.PhaseNumber)
}

// hasRoom says whether the memory and the disk have room for an effect beside all that were let in. (The log is asked for itself.)
func (m *Shared) hasRoom(more load, promise int) bool {
	return !m.reserved.isFull(more, m.book.room) &&
		m.log.Given()+m.unnumbered() < api.MaxLsn &&
		m.disk.Count()+m.promised+promise <= api.MaxOps
}

// unnumbered answers how many effects were let in that have no number so far.
func (m *Shared) unnumbered() int {
	n := 0
	for _, h := range m.handlers {
		if h.work != nil && h.work.phase == api.PhaseNumber {
			n++
		}
	}
	return n
}

// note has the effect on all but the levels, which have turned.
func (m *Shared) note(w *work) {
	reply, gone := m.book.take(w.normal)
	m.reserved = m.reserved.minus(gone)
	for _, s := range w.set {
		m.last[s] = w.lsn
	}
	m.noted = max(m.noted, w.lsn)
	w.answered(reply, w.lsn)
	m.point(w)
	if len(w.goods) == 0 {
		w.toLeave()
		return
	}
	w.to(api.PhaseEven)
}
