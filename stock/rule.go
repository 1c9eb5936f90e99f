package stock

import "larder/api"

// rule is what a kind of request is about. A function that is nil has nothing to say.
type rule struct {
	lines, hold, ttl, now bool // the fields that the kind uses

	named  func(*Ledger, api.Request) api.Errno // what the live holds' names have against it
	limit  func(level, int) api.Errno           // what a code's level has against its sum
	effect func(*Ledger, api.Request)           // what it changes beside what every effect does
}

// ruleOf answers the rule of a kind, and whether it is one of the nine.
func ruleOf(kind int) (rule, bool) {
	if kind < api.KindRestock || kind > api.KindSave {
		return rule{}, false
	}
	rules := [...]rule{
		api.KindRestock:  {lines: true, limit: level.over, effect: (*Ledger).restock},
		api.KindWriteoff: {lines: true, limit: level.short, effect: (*Ledger).writeOff},
		api.KindHold:     {lines: true, ttl: true, named: (*Ledger).there, limit: level.short, effect: (*Ledger).keep},
		api.KindCommit:   {hold: true, named: (*Ledger).missing, effect: (*Ledger).commit},
		api.KindRelease:  {hold: true, named: (*Ledger).missing, effect: (*Ledger).release},
		api.KindExtend:   {hold: true, ttl: true, named: (*Ledger).missing, effect: (*Ledger).extend},
		api.KindRead:     {lines: true},
		api.KindTick:     {now: true, effect: (*Ledger).tick},
		api.KindSave:     {},
	}
	return rules[kind], true
}

// level is a code's level as the rules ask it.
type level api.Level

// over bars goods from coming in that could not be counted any more.
func (v level) over(sum int) api.Errno {
	if sum > api.MaxStock-v.OnHand {
		return api.ErrOver
	}
	return api.OK
}

// short bars goods from being taken that are not there, or are held for somebody.
func (v level) short(sum int) api.Errno {
	if sum > v.OnHand-v.Held {
		return api.ErrStock
	}
	return api.OK
}

// there bars a hold from being made whose name a live one has, as may be if its request is forgotten.
func (l *Ledger) there(r api.Request) api.Errno {
	if _, live := l.holds[r.Id]; live {
		return api.ErrThere
	}
	return api.OK
}

// missing bars what asks for a hold that does not live.
func (l *Ledger) missing(r api.Request) api.Errno {
	if _, live := l.holds[r.Hold]; !live {
		return api.ErrNoHold
	}
	return api.OK
}

func (l *Ledger) restock(r api.Request) { l.move(r.Lines, 1, 0) }

func (l *Ledger) writeOff(r api.Request) { l.move(r.Lines, -1, 0) }

// keep makes a hold.
func (l *Ledger) keep(r api.Request) {
	l.move(r.Lines, 0, 1)
	l.holds[r.Id] = r.Lines
	l.weight += weightOfHold(r.Id, r.Lines)
	l.wheel.Add(r.Id, l.wheel.Now()+r.Ttl)
}

func (l *Ledger) commit(r api.Request) {
	l.wheel.Remove(r.Hold)
	l.end(r.Hold, -1)
}

func (l *Ledger) release(r api.Request) {
	l.wheel.Remove(r.Hold)
	l.end(r.Hold, 0)
}

func (l *Ledger) extend(r api.Request) {
	l.wheel.Change(r.Hold, l.wheel.Now()+r.Ttl)
}

// tick lets the clock go on, holds lapse and old requests be forgotten.
func (l *Ledger) tick(r api.Request) {
	lapsed, _ := l.wheel.Advance(l.clock(r))
	for _, id := range lapsed {
		l.end(id, 0)
	}
	for id, d := range l.done {
		if d.At <= l.wheel.Now()-api.KeptFor {
			l.weight -= weightOfDone(d)
			delete(l.done, id)
		}
	}
}

// clock answers the clock behind a request's effect: it never goes back.
func (l *Ledger) clock(r api.Request) int {
	return max(l.wheel.Now(), r.Now)
}

// end takes away a hold that is no longer in the wheel; onHand is -1 where its goods go with it.
func (l *Ledger) end(id string, onHand int) {
	lines := l.holds[id]
	l.move(lines, onHand, -1)
	l.weight -= weightOfHold(id, lines)
	delete(l.holds, id)
}

// move changes the levels of lines' codes by so many times their Qtys.
func (l *Ledger) move(lines []api.Line, onHand, held int) {
	for _, x := range lines {
		i, _ := placeOf(l.levels, x.Code)
		l.levels[i].OnHand += onHand * x.Qty
		l.levels[i].Held += held * x.Qty
	}
}
