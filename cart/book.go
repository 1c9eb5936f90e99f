package cart

import (
	"maps"
	"slices"
	"strings"

	"larder/api"
	"larder/stock"
)

// book is the ledger's state as it stands, while its parts turn one by one.
type book struct {
	room   int
	lsn    int
	now    int
	levels []api.Level // by code
	holds  map[string]api.Held
	done   map[string]api.Done
	load   load
}

// load is what counts against the limits of a state.
type load struct {
	weight int
	holds  int
	done   int
}

func (l load) plus(more load) load {
	return load{l.weight + more.weight, l.holds + more.holds, l.done + more.done}
}

func (l load) minus(gone load) load {
	return load{l.weight - gone.weight, l.holds - gone.holds, l.done - gone.done}
}

// isFull says whether a limit leaves no room for an effect that adds so much.
func (l load) isFull(more load, room int) bool {
	return l.done >= api.MaxDone || more.holds > 0 && l.holds >= api.MaxHolds || l.weight+more.weight > room
}

// loadOf answers what holds and remembered requests add to a state.
func loadOf(holds []api.Held, done []api.Done) load {
	weight := stock.Weight(api.State{Holds: holds, Done: done}) - stock.Weight(api.State{})
	return load{weight, len(holds), len(done)}
}

// added answers what the effect of a request adds to the state.
func added(r api.Request) load {
	var holds []api.Held
	if r.Kind == api.KindHold {
		holds = append(holds, api.Held{Id: r.Id, Lines: r.Lines})
	}
	return loadOf(holds, []api.Done{{Request: r}})
}

// bookOf answers a sound state as a book.
func bookOf(s api.State) *book {
	b := &book{room: s.Room, lsn: s.Lsn, now: s.Now, levels: copied(s.Levels), holds: make(map[string]api.Held), done: make(map[string]api.Done)}
	b.load = load{stock.Weight(s), len(s.Holds), len(s.Done)}
	for _, h := range s.Holds {
		b.holds[h.Id] = copiedHold(h)
	}
	for _, d := range s.Done {
		b.done[d.Request.Id] = copiedDone(d)
	}
	return b
}

// state answers the book as plain data.
func (b *book) state() api.State {
	if b == nil {
		return api.State{}
	}
	s := api.State{Room: b.room, Lsn: b.lsn, Now: b.now, Levels: copied(b.levels)}
	for _, id := range slices.Sorted(maps.Keys(b.holds)) {
		s.Holds = append(s.Holds, copiedHold(b.holds[id]))
	}
	for _, id := range slices.Sorted(maps.Keys(b.done)) {
		s.Done = append(s.Done, copiedDone(b.done[id]))
	}
	return s
}

func copiedHold(h api.Held) api.Held {
	h.Lines = copied(h.Lines)
	return h
}

func copiedDone(d api.Done) api.Done {
	d.Request.Lines = copied(d.Request.Lines)
	return d
}

// weight answers what the state weighs.
func (b *book) weight() int {
	if b == nil {
		return 0
	}
	return b.load.weight
}

// placeOf answers a code's place among the levels, and whether it is in the catalogue.
func (b *book) placeOf(code string) (int, bool) {
	return slices.BinarySearchFunc(b.levels, code, func(v api.Level, code string) int { return strings.Compare(v.Code, code) })
}

// level answers the level of a code of the catalogue.
func (b *book) level(code string) api.Level {
	i, _ := b.placeOf(code)
	return b.levels[i]
}

func (b *book) levelsOf(lines []api.Line) []api.Level {
	var l []api.Level
	for _, x := range lines {
		l = append(l, b.level(x.Code))
	}
	return l
}

// turn adds to the level of a code.
func (b *book) turn(more api.Level) {
	i, _ := b.placeOf(more.Code)
	b.levels[i].OnHand += more.OnHand
	b.levels[i].Held += more.Held
}

// unknown answers the first line whose code is not in the catalogue; or that all are.
func (b *book) unknown(lines []api.Line) (line int, all bool) {
	for i, x := range lines {
		if _, there := b.placeOf(x.Code); !there {
			return i, false
		}
	}
	return 0, true
}

// isOther says whether a live hold has other lines than were seen of it.
func (b *book) isOther(name string, seen []api.Line) bool {
	h, live := b.holds[name]
	return live && !slices.Equal(h.Lines, seen)
}

// judge answers the reply to a request that has no effect (any more); or that it has one, if there is room for it.
func (b *book) judge(r, n api.Request) (reply api.Reply, judged bool) {
	reply.Id = r.Id
	if d, there := b.done[r.Id]; there {
		if !isSame(d.Request, n) {
			reply.Err = api.ErrOther
			return reply, true
		}
		return stock.First(d), true
	}
	reply.Err, reply.Line = b.refusal(r, n)
	return reply, reply.Err != api.OK
}

// isSame says whether two requests with one line a code are equal.
func isSame(r, s api.Request) bool {
	return r.Id == s.Id && r.Kind == s.Kind && slices.Equal(r.Lines, s.Lines) && r.Hold == s.Hold && r.Ttl == s.Ttl && r.Now == s.Now
}

// refusal answers what levels and holds have against a request r whose Normal is n, and at which of its lines.
func (b *book) refusal(r, n api.Request) (api.Errno, int) {
	if line, all := b.unknown(r.Lines); !all {
		return api.ErrNoCode, line
	}
	switch r.Kind {
	case api.KindRestock:
		over := func(v api.Level, sum int) bool { return sum > api.MaxStock-v.OnHand }
		return b.firstLine(r, n, api.ErrOver, over)
	case api.KindHold:
		if _, live := b.holds[r.Id]; live {
			return api.ErrThere, 0
		}
		fallthrough
	case api.KindWriteoff:
		short := func(v api.Level, sum int) bool { return sum > v.OnHand-v.Held }
		return b.firstLine(r, n, api.ErrStock, short)
	case api.KindCommit, api.KindRelease, api.KindExtend:
		if _, live := b.holds[r.Hold]; !live {
			return api.ErrNoHold, 0
		}
	}
	return api.OK, 0
}

// firstLine answers an error and the first of r's lines whose code's sum does not go with its level.
func (b *book) firstLine(r, n api.Request, e api.Errno, bars func(api.Level, int) bool) (api.Errno, int) {
	for i, x := range r.Lines {
		if bars(b.level(x.Code), sumOf(n.Lines, x.Code)) {
			return e, i
		}
	}
	return api.OK, 0
}

// sumOf answers the Qty of a code in lines of which each code has one.
func sumOf(lines []api.Line, code string) int {
	i := slices.IndexFunc(lines, func(x api.Line) bool { return x.Code == code })
	return lines[i].Qty
}

// spent says which limit leaves no room for an effect that adds so much.
func (b *book) spent(more load) api.Errno {
	switch {
	case b.load.isFull(more, b.room):
		return api.ErrFull
	case b.lsn >= api.MaxLsn:
		return api.ErrEnd
	}
	return api.OK
}

// goodsOf answers what the effect of a request adds to the levels, in order of codes.
func (b *book) goodsOf(r api.Request) []api.Level {
	switch r.Kind {
	case api.KindRestock:
		return times(r.Lines, 1, 0)
	case api.KindWriteoff:
		return times(r.Lines, -1, 0)
	case api.KindHold:
		return times(r.Lines, 0, 1)
	case api.KindCommit:
		return times(b.holds[r.Hold].Lines, -1, -1)
	case api.KindRelease:
		return times(b.holds[r.Hold].Lines, 0, -1)
	case api.KindTick:
		return times(summed(b.lapsing(b.clock(r))), 0, -1)
	}
	return nil
}

// times answers lines as what is added to levels: so many times their Qtys.
func times(lines []api.Line, onHand, held int) []api.Level {
	var l []api.Level
	for _, x := range lines {
		l = append(l, api.Level{Code: x.Code, OnHand: onHand * x.Qty, Held: held * x.Qty})
	}
	return l
}

// clock answers the clock behind a Tick: it never goes back.
func (b *book) clock(r api.Request) int { return max(b.now, r.Now) }

// lapsing answers the holds whose time is over at a clock, in any order.
func (b *book) lapsing(clock int) []api.Held {
	var l []api.Held
	for _, h := range b.holds {
		if h.Deadline <= clock {
			l = append(l, h)
		}
	}
	return l
}

// summed answers the lines of holds added up by code, in order of codes.
func summed(holds []api.Held) []api.Line {
	sums := make(map[string]int)
	for _, h := range holds {
		for _, x := range h.Lines {
			sums[x.Code] += x.Qty
		}
	}
	var l []api.Line
	for _, code := range slices.Sorted(maps.Keys(sums)) {
		l = append(l, api.Line{Code: code, Qty: sums[code]})
	}
	return l
}

// take has the effect of a request on holds, clock and what is remembered, and answers its first reply, and what it took away.
func (b *book) take(r api.Request) (reply api.Reply, gone load) {
	more := added(r)
	switch r.Kind {
	case api.KindHold:
		b.holds[r.Id] = api.Held{Id: r.Id, Lines: r.Lines, Deadline: b.now + r.Ttl}
	case api.KindCommit, api.KindRelease:
		gone = b.drop([]api.Held{b.holds[r.Hold]})
	case api.KindExtend:
		h := b.holds[r.Hold]
		h.Deadline = b.now + r.Ttl
		b.holds[r.Hold] = h
	case api.KindTick:
		b.now = b.clock(r)
		gone = b.drop(b.lapsing(b.now)).plus(b.forget())
	}
	d := api.Done{Request: r, At: b.now}
	b.done[r.Id] = d
	b.lsn++
	b.load = b.load.plus(more).minus(gone)
	return stock.First(d), gone
}

// drop takes holds away.
func (b *book) drop(holds []api.Held) load {
	for _, h := range holds {
		delete(b.holds, h.Id)
	}
	return loadOf(holds, nil)
}

// forget takes the requests away that were remembered long enough.
func (b *book) forget() load {
	var old []api.Done
	for id, d := range b.done {
		if d.At <= b.now-api.KeptFor {
			old = append(old, d)
			delete(b.done, id)
		}
	}
	return loadOf(nil, old)
}

func codesOf(lines []api.Line) []string {
	var l []string
	for _, x := range lines {
		l = append(l, x.Code)
	}
	return l
}

func codesOfLevels(levels []api.Level) []string {
	var l []string
	for _, v := range levels {
		l = append(l, v.Code)
	}
	return l
}
