package till_test

import (
	"math/rand"
	"strconv"

	"larder/api"
)

// writer draws requests that get in each other's way, and power failures.
type writer struct {
	r     *rand.Rand
	codes []string
	ids   int
	past  []api.Request
	calm  bool // few Ticks and Saves, behind which all others queue
}

// id answers a new one, or one that others have too.
func (d *writer) id() string {
	if d.r.Intn(6) == 0 {
		return string(rune('1' + d.r.Intn(6)))
	}
	d.ids++
	return "q" + strconv.Itoa(d.ids)
}

func (d *writer) lines(most, qty int) []api.Line {
	var l []api.Line
	for range 1 + d.r.Intn(most) {
		x := api.Line{Code: d.codes[d.r.Intn(len(d.codes))]}
		if qty > 0 {
			x.Qty = 1 + d.r.Intn(qty)
		}
		if d.r.Intn(60) == 0 {
			x.Code = "zz"
		}
		l = append(l, x)
	}
	return l
}

// name answers the name of a hold, most often of one that is there.
func (d *writer) name(s api.State) string {
	if len(s.Holds) > 0 && d.r.Intn(4) > 0 {
		return s.Holds[d.r.Intn(len(s.Holds))].Id
	}
	return string(rune('1' + d.r.Intn(6)))
}

// request draws one for a store that stands so: at times one that was asked already.
func (d *writer) request(s api.State) api.Request {
	if len(d.past) > 0 && d.r.Intn(7) == 0 {
		return copyRequest(d.past[max(0, len(d.past)-1-d.r.Intn(12))])
	}
	q := d.fresh(s)
	for d.calm && q.Kind >= api.KindTick && d.r.Intn(8) > 0 {
		q = d.fresh(s)
	}
	d.past = append(d.past, copyRequest(q))
	return q
}

func (d *writer) fresh(s api.State) api.Request {
	switch n := d.r.Intn(100); {
	case n < 24:
		return restock(d.id(), d.lines(3, 9)...)
	case n < 32:
		return writeoff(d.id(), d.lines(3, 3)...)
	case n < 50:
		ttl := 1 + d.r.Intn(40)
		if d.r.Intn(2) == 0 {
			ttl = 2 * api.KeptFor
		}
		return hold(d.id(), ttl, d.lines(3, 3)...)
	case n < 60:
		return commit(d.id(), d.name(s))
	case n < 66:
		return release(d.id(), d.name(s))
	case n < 71:
		return extend(d.id(), d.name(s), 1+d.r.Intn(40))
	case n < 84:
		return api.Request{Id: d.id(), Kind: api.KindRead, Lines: d.lines(4, 0)}
	case n < 90:
		now := s.Now + d.r.Intn(20)
		if d.r.Intn(2) == 0 {
			now = s.Now + api.KeptFor - d.r.Intn(2)
		}
		return tick(d.id(), min(now, api.MaxNow))
	case n < 96:
		return save(d.id())
	case n < 98:
		return restock(d.id(), line(d.codes[0], api.MaxStock-d.r.Intn(4)))
	default:
		return d.wrong()
	}
}

// wrong draws a request that is not well formed.
func (d *writer) wrong() api.Request {
	list := []api.Request{
		restock(""), restock("w"), restock("w", line("a", 0)), read("w"), {Id: "w", Kind: api.KindRead, Lines: []api.Line{line("a", 1)}},
		hold("w", 0, line("a", 1)), commit("w", ""), tick("w", -1), {Id: "w", Kind: 10}, {Id: "w"}, {Id: "w", Kind: api.KindSave, Ttl: 1},
		restock("w", line("a", 1), line("a b", 1)), restock("w", line("a", api.MaxStock), line("a", 1)),
	}
	return list[d.r.Intn(len(list))]
}

// failure draws what a power failure leaves of so many loose writes: nothing, all, the first ones, or any of them; one torn at any byte; and numbers that are no write's.
func (d *writer) failure(loose int) api.Crash {
	c := api.Crash{Torn: d.r.Intn(loose+3) - 1, Bytes: d.r.Intn(api.SectorBytes + 1)}
	switch d.r.Intn(6) {
	case 0:
	case 1:
		c.Torn, c.Bytes = -1, 0
	case 2, 3:
		for i := range loose {
			c.Keep = append(c.Keep, i)
		}
	case 4:
		for i := range d.r.Intn(loose + 1) {
			c.Keep = append(c.Keep, i)
		}
	default:
		for range d.r.Intn(2*loose + 2) {
			c.Keep = append(c.Keep, d.r.Intn(loose+3)-1)
		}
	}
	return c
}

// shop is a store for runs.
type shop struct {
	name  string
	c     api.Config
	lsn   int
	epoch int
	runs  int
	steps int
}

func shops() []shop {
	few := []string{"a", "b"}
	some := []string{"a", "b", "c", "d", "e"}
	return []shop{
		{"one stripe", api.Config{Codes: few, Stripes: 1, Handlers: 3, Sectors: 120, Slot: 20}, 0, 1, 6, 800},
		{"two stripes", api.Config{Codes: some, Stripes: 2, Handlers: 3, Sectors: 120, Slot: 30}, 5, 1, 6, 800},
		{"sixteen stripes", api.Config{Codes: some, Stripes: 16, Handlers: 4, Sectors: 140, Slot: 30}, 0, 7, 14, 900},
		{"all stripes", api.Config{Codes: some, Stripes: 64, Handlers: 6, Sectors: 140, Slot: 30}, 0, 1, 26, 900},
		{"many handlers", api.Config{Codes: few, Stripes: 3, Handlers: 16, Sectors: 120, Slot: 20}, 0, 1, 5, 900},
		{"one handler", api.Config{Codes: few, Stripes: 5, Handlers: 1, Sectors: 60, Slot: 12}, 0, 1, 3, 800},
		{"a little room", api.Config{Codes: few, Stripes: 3, Handlers: 4, Sectors: 60, Slot: 8}, 0, 1, 8, 900},
		{"a short log", api.Config{Codes: few, Stripes: 4, Handlers: 3, Sectors: 45, Slot: 20}, 0, 1, 8, 900},
		{"the last numbers", api.Config{Codes: few, Stripes: 3, Handlers: 4, Sectors: 90, Slot: 20}, api.MaxLsn - 9, 1, 4, 800},
		{"the last lives", api.Config{Codes: few, Stripes: 2, Handlers: 3, Sectors: 60, Slot: 20}, 0, api.MaxLife - 6, 5, 800},
	}
}
