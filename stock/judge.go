package stock

import "larder/api"

// judge says what the ledger answers to a request; and, if the answer is that of an effect, what is to be remembered of it. It changes nothing, so that Do and Would answer alike.
func (l *Ledger) judge(r api.Request) (reply api.Reply, next api.Done, effect bool) {
	n, e, line := Normal(r)
	if e != api.OK {
		return refused(r, e, line), next, false
	}
	k, _ := ruleOf(r.Kind)
	if d, there := l.done[r.Id]; there && k.effect != nil {
		if !same(d.Request, n) {
			return refused(r, api.ErrOther, 0), next, false
		}
		return First(d), next, false
	}
	if e, line := l.bars(k, r, n); e != api.OK {
		return refused(r, e, line), next, false
	}
	if k.effect == nil {
		return api.Reply{Id: r.Id, Levels: l.read(n.Lines)}, next, false
	}
	next = api.Done{Request: n, At: l.clock(n)}
	if e := l.spent(next); e != api.OK {
		return refused(r, e, 0), api.Done{}, false
	}
	return First(next), next, true
}

func refused(r api.Request, e api.Errno, line int) api.Reply {
	return api.Reply{Id: r.Id, Err: e, Line: line}
}

// bars says what stands against a request r whose Normal is n, and at which of its lines.
func (l *Ledger) bars(k rule, r, n api.Request) (api.Errno, int) {
	for i, x := range r.Lines {
		if _, there := placeOf(l.levels, x.Code); !there {
			return api.ErrNoCode, i
		}
	}
	if k.named != nil {
		if e := k.named(l, n); e != api.OK {
			return e, 0
		}
	}
	if k.limit == nil {
		return api.OK, 0
	}
	for i, x := range r.Lines {
		at, _ := placeOf(l.levels, x.Code)
		if e := k.limit(level(l.levels[at]), sumOf(n.Lines, x.Code)); e != api.OK {
			return e, i
		}
	}
	return api.OK, 0
}

// read answers the levels of lines' codes.
func (l *Ledger) read(lines []api.Line) []api.Level {
	var levels []api.Level
	for _, x := range lines {
		at, _ := placeOf(l.levels, x.Code)
		levels = append(levels, l.levels[at])
	}
	return levels
}

// spent says which limit leaves no room for an effect. What the effect will take away is not counted off: it is there as long as the effect is not.
func (l *Ledger) spent(d api.Done) api.Errno {
	added := weightOfDone(d)
	isHold := d.Request.Kind == api.KindHold
	if isHold {
		added += weightOfHold(d.Request.Id, d.Request.Lines)
	}
	switch {
	case len(l.done) >= api.MaxDone, isHold && len(l.holds) >= api.MaxHolds, l.weight+added > l.room:
		return api.ErrFull
	case l.lsn >= api.MaxLsn:
		return api.ErrEnd
	}
	return api.OK
}

// take has the effect of a request that nothing bars, and remembers it.
func (l *Ledger) take(d api.Done) {
	k, _ := ruleOf(d.Request.Kind)
	k.effect(l, d.Request)
	l.lsn++
	l.done[d.Request.Id] = d
	l.weight += weightOfDone(d)
}
