package stock_test

import (
	"math/big"
	"sort"

	"larder/api"
)

// book is a slow ledger, written from the document alone: a state whose lists are gone through from one end to the other for every question, and sums of any size.
type book struct {
	s api.State
}

// uses says which fields a kind has: L lines, H a hold, T a ttl, N a clock.
func uses(kind int) (fields string, known bool) {
	switch kind {
	case 1, 2, 7:
		return "L", true
	case 3:
		return "LT", true
	case 4, 5:
		return "H", true
	case 6:
		return "HT", true
	case 8:
		return "N", true
	case 9:
		return "", true
	}
	return "", false
}

func has(fields string, f byte) bool {
	for i := range len(fields) {
		if fields[i] == f {
			return true
		}
	}
	return false
}

func changes(kind int) bool {
	return kind == 1 || kind == 2 || kind == 3 || kind == 4 || kind == 5 || kind == 6 || kind == 8
}

func legible(s string, most int) bool {
	for _, b := range []byte(s) {
		if b <= ' ' || b >= 127 {
			return false
		}
	}
	return len(s) > 0 && len(s) <= most
}

// total answers the sum of a code in lines, of any size.
func total(lines []api.Line, code string) *big.Int {
	sum := new(big.Int)
	for _, x := range lines {
		if x.Code == code {
			sum.Add(sum, big.NewInt(int64(x.Qty)))
		}
	}
	return sum
}

func above(sum *big.Int, n int) bool { return sum.Cmp(big.NewInt(int64(n))) > 0 }

// fault is P12.1.
func fault(r api.Request) (api.Errno, int) {
	fields, known := uses(r.Kind)
	if !legible(r.Id, 64) {
		return api.ErrId, 0
	}
	if !known {
		return api.ErrKind, 0
	}
	if !has(fields, 'L') && len(r.Lines) != 0 || !has(fields, 'H') && len(r.Hold) != 0 || !has(fields, 'T') && r.Ttl != 0 || !has(fields, 'N') && r.Now != 0 {
		return api.ErrUnused, 0
	}
	if has(fields, 'L') {
		if len(r.Lines) < 1 || len(r.Lines) > 32 {
			return api.ErrLines, 0
		}
		for i, x := range r.Lines {
			if !legible(x.Code, 40) {
				return api.ErrCode, i
			}
			if r.Kind == 7 && x.Qty != 0 || r.Kind != 7 && x.Qty <= 0 {
				return api.ErrQty, i
			}
			if above(total(r.Lines[:i+1], x.Code), 9223372036854775807) {
				return api.ErrOver, i
			}
		}
	}
	if has(fields, 'H') && !legible(r.Hold, 64) {
		return api.ErrHold, 0
	}
	if has(fields, 'T') && (r.Ttl <= 0 || r.Ttl > 2147483648) {
		return api.ErrTtl, 0
	}
	if has(fields, 'N') && (r.Now < 0 || r.Now > 549755813888) {
		return api.ErrNow, 0
	}
	return api.OK, 0
}

// tidy is P12.2, of a request without a fault.
func tidy(r api.Request) api.Request {
	n := r
	n.Lines = nil
	for _, x := range r.Lines {
		there := false
		for _, y := range n.Lines {
			there = there || y.Code == x.Code
		}
		if !there {
			n.Lines = append(n.Lines, line(x.Code, int(total(r.Lines, x.Code).Int64())))
		}
	}
	sort.Slice(n.Lines, func(i, j int) bool { return n.Lines[i].Code < n.Lines[j].Code })
	return n
}

func heavyLines(lines []api.Line) int {
	n := 11 * len(lines)
	for _, x := range lines {
		n += len(x.Code)
	}
	return n
}

func heavyHeld(h api.Held) int { return 14 + len(h.Id) + heavyLines(h.Lines) }

func heavyRequest(r api.Request) int {
	return 40 + len(r.Id) + len(r.Hold) + heavyLines(r.Lines)
}

// heavy is what a state weighs.
func heavy(s api.State) int {
	n := 64 + 21*len(s.Levels) + 11*len(s.Done)
	for _, v := range s.Levels {
		n += len(v.Code)
	}
	for _, h := range s.Holds {
		n += heavyHeld(h)
	}
	for _, d := range s.Done {
		n += heavyRequest(d.Request)
	}
	return n
}

func opened(room int, codes ...string) *book {
	b := &book{api.State{Room: room}}
	for _, c := range codes {
		b.s.Levels = append(b.s.Levels, api.Level{Code: c})
	}
	return b
}

func (b *book) level(code string) *api.Level {
	for i := range b.s.Levels {
		if b.s.Levels[i].Code == code {
			return &b.s.Levels[i]
		}
	}
	return nil
}

func (b *book) live(name string) *api.Held {
	for i := range b.s.Holds {
		if b.s.Holds[i].Id == name {
			return &b.s.Holds[i]
		}
	}
	return nil
}

func (b *book) remembered(id string) *api.Done {
	for i := range b.s.Done {
		if b.s.Done[i].Request.Id == id {
			return &b.s.Done[i]
		}
	}
	return nil
}

func firstReply(d api.Done) api.Reply {
	if d.Request.Kind == 3 || d.Request.Kind == 6 {
		return okAt(d.Request.Id, d.At+d.Request.Ttl)
	}
	if d.Request.Kind == 8 {
		return okAt(d.Request.Id, d.At)
	}
	return ok(d.Request.Id)
}

// refuses is P12.4, 3 and 4.
func (b *book) refuses(r api.Request) (api.Errno, int) {
	for i, x := range r.Lines {
		if b.level(x.Code) == nil {
			return api.ErrNoCode, i
		}
	}
	if r.Kind == 3 && b.live(r.Id) != nil {
		return api.ErrThere, 0
	}
	for i, x := range r.Lines {
		v, sum := b.level(x.Code), total(r.Lines, x.Code)
		if r.Kind == 1 && above(sum.Add(sum, big.NewInt(int64(v.OnHand))), 9223372036854775807) {
			return api.ErrOver, i
		}
		if (r.Kind == 2 || r.Kind == 3) && above(sum, v.OnHand-v.Held) {
			return api.ErrStock, i
		}
	}
	if (r.Kind == 4 || r.Kind == 5 || r.Kind == 6) && b.live(r.Hold) == nil {
		return api.ErrNoHold, 0
	}
	return api.OK, 0
}

// full is P12.4, 5.
func (b *book) full(n api.Request) api.Errno {
	with := b.s
	with.Done = append(append([]api.Done(nil), b.s.Done...), api.Done{Request: n})
	if n.Kind == 3 {
		with.Holds = append(append([]api.Held(nil), b.s.Holds...), api.Held{Id: n.Id, Lines: n.Lines})
	}
	if len(with.Done) > 4096 || len(with.Holds) > 1024 || heavy(with) > b.s.Room {
		return api.ErrFull
	}
	if b.s.Lsn == 4611686018427387904 {
		return api.ErrEnd
	}
	return api.OK
}

// do is P12.4.
func (b *book) do(r api.Request) api.Reply {
	if e, i := fault(r); e != api.OK {
		return no(r.Id, e, i)
	}
	n := tidy(r)
	if d := b.remembered(r.Id); d != nil && changes(r.Kind) {
		if !sameRequest(d.Request, n) {
			return no(r.Id, api.ErrOther, 0)
		}
		return firstReply(*d)
	}
	if e, i := b.refuses(r); e != api.OK {
		return no(r.Id, e, i)
	}
	if !changes(r.Kind) {
		reply := ok(r.Id)
		for _, x := range n.Lines {
			reply.Levels = append(reply.Levels, *b.level(x.Code))
		}
		return reply
	}
	if e := b.full(n); e != api.OK {
		return no(r.Id, e, 0)
	}
	b.effect(n)
	d := api.Done{Request: n, At: b.s.Now}
	b.s.Lsn++
	b.s.Done = append(b.s.Done, d)
	sort.Slice(b.s.Done, func(i, j int) bool { return b.s.Done[i].Request.Id < b.s.Done[j].Request.Id })
	return firstReply(d)
}

func (b *book) effect(n api.Request) {
	switch n.Kind {
	case 1:
		for _, x := range n.Lines {
			b.level(x.Code).OnHand += x.Qty
		}
	case 2:
		for _, x := range n.Lines {
			b.level(x.Code).OnHand -= x.Qty
		}
	case 3:
		for _, x := range n.Lines {
			b.level(x.Code).Held += x.Qty
		}
		b.s.Holds = append(b.s.Holds, api.Held{Id: n.Id, Lines: n.Lines, Deadline: b.s.Now + n.Ttl})
		sort.Slice(b.s.Holds, func(i, j int) bool { return b.s.Holds[i].Id < b.s.Holds[j].Id })
	case 4:
		for _, x := range b.live(n.Hold).Lines {
			b.level(x.Code).OnHand -= x.Qty
		}
		b.lapse(func(h api.Held) bool { return h.Id == n.Hold })
	case 5:
		b.lapse(func(h api.Held) bool { return h.Id == n.Hold })
	case 6:
		b.live(n.Hold).Deadline = b.s.Now + n.Ttl
	case 8:
		if n.Now > b.s.Now {
			b.s.Now = n.Now
		}
		b.lapse(func(h api.Held) bool { return h.Deadline <= b.s.Now })
		var kept []api.Done
		for _, d := range b.s.Done {
			if d.At > b.s.Now-86400 {
				kept = append(kept, d)
			}
		}
		b.s.Done = kept
	}
}

// lapse takes away the holds of which something is true; what they have is free again.
func (b *book) lapse(gone func(api.Held) bool) {
	var left []api.Held
	for _, h := range b.s.Holds {
		if !gone(h) {
			left = append(left, h)
			continue
		}
		for _, x := range h.Lines {
			b.level(x.Code).Held -= x.Qty
		}
	}
	b.s.Holds = left
}

// next is the least deadline.
func (b *book) next() (int, bool) {
	at, some := 0, false
	for _, h := range b.s.Holds {
		if !some || h.Deadline < at {
			at, some = h.Deadline, true
		}
	}
	return at, some
}
