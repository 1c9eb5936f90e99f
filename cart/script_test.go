package cart_test

import (
	"math/rand"
	"strconv"
	"testing"

	"larder/api"
)

// writer draws requests that get in each other's way.
type writer struct {
	r     *rand.Rand
	codes []string
	ids   int
	past  []api.Request
	calm  bool // few Ticks and Saves, behind which all others queue
}

func (d *writer) id() string {
	if d.r.Intn(5) == 0 {
		return string(rune('1' + d.r.Intn(6)))
	}
	d.ids++
	return "q" + strconv.Itoa(d.ids)
}

func (d *writer) lines(most, qty int) []api.Line {
	var l []api.Line
	for range 1 + d.r.Intn(most) {
		x := api.Line{Code: d.codes[d.r.Intn(len(d.codes))]}
		if qty > 0 {
			x.Qty = 1 + d.r.Intn(qty)
		}
		if d.r.Intn(60) == 0 {
			x.Code = "zz"
		}
		l = append(l, x)
	}
	return l
}

// name answers the name of a hold, most often of one that is there or was asked for.
func (d *writer) name(s api.State) string {
	if len(s.Holds) > 0 && d.r.Intn(3) > 0 {
		return s.Holds[d.r.Intn(len(s.Holds))].Id
	}
	for range 6 {
		if len(d.past) > 0 {
			if q := d.past[max(0, len(d.past)-1-d.r.Intn(9))]; q.Kind == api.KindHold && q.Id != "" {
				return q.Id
			}
		}
	}
	return string(rune('1' + d.r.Intn(6)))
}

// request draws one for a store that stands so.
func (d *writer) request(s api.State) api.Request {
	if len(d.past) > 0 && d.r.Intn(7) == 0 {
		return d.past[max(0, len(d.past)-1-d.r.Intn(12))]
	}
	q := d.fresh(s)
	for d.calm && q.Kind >= api.KindTick && d.r.Intn(6) > 0 {
		q = d.fresh(s)
	}
	d.past = append(d.past, q)
	return q
}

func (d *writer) fresh(s api.State) api.Request {
	switch n := d.r.Intn(100); {
	case n < 22:
		return restock(d.id(), d.lines(3, 9)...)
	case n < 30:
		return writeoff(d.id(), d.lines(3, 3)...)
	case n < 50:
		ttl := 1 + d.r.Intn(40)
		if d.r.Intn(2) == 0 {
			ttl = 2 * api.KeptFor
		}
		id := d.id()
		if len(s.Holds) > 0 && d.r.Intn(8) == 0 {
			id = s.Holds[d.r.Intn(len(s.Holds))].Id
		}
		return hold(id, ttl, d.lines(3, 3)...)
	case n < 60:
		return commit(d.id(), d.name(s))
	case n < 66:
		return release(d.id(), d.name(s))
	case n < 71:
		return extend(d.id(), d.name(s), 1+d.r.Intn(40))
	case n < 84:
		q := api.Request{Id: d.id(), Kind: api.KindRead, Lines: d.lines(4, 0)}
		return q
	case n < 90:
		now := s.Now + d.r.Intn(20)
		if d.r.Intn(2) == 0 {
			now = s.Now + api.KeptFor - d.r.Intn(2)
		}
		return tick(d.id(), min(now, api.MaxNow))
	case n < 96:
		return save(d.id())
	case n < 98:
		return restock(d.id(), line(d.codes[0], api.MaxStock-d.r.Intn(4)))
	default:
		return d.wrong()
	}
}

// wrong draws a request that is not well formed.
func (d *writer) wrong() api.Request {
	list := []api.Request{
		restock(""), restock("w"), restock("w", line("a", 0)), read("w"), {Id: "w", Kind: api.KindRead, Lines: []api.Line{line("a", 1)}},
		hold("w", 0, line("a", 1)), commit("w", ""), tick("w", -1), {Id: "w", Kind: 10}, {Id: "w"}, {Id: "w", Kind: api.KindSave, Ttl: 1},
		restock("w", line("a", 1), line("a b", 1)), restock("w", line("a", api.MaxStock), line("a", 1)),
	}
	return list[d.r.Intn(len(list))]
}

// play starts and picks at random; in the end all run out in turn. In each run some phase is one in which handlers are seldom picked, so that others come between there.
func play(w *watch, r *rand.Rand, turn, steps int) {
	w.t.Helper()
	d := &writer{r: r, codes: w.c.Codes, calm: r.Intn(2) == 0}
	slow := []int{api.PhaseAppend, api.PhaseWait, api.PhaseTicket, api.PhaseNumber, api.PhaseApply, api.PhaseEven, api.PhaseCollect, api.PhaseLook, api.PhaseAgain, api.PhaseBarrier, api.PhaseIdle}
	shunned := slow[turn%len(slow)]
	pick, stay := 0, 0
	for range steps {
		if w.broken {
			return
		}
		if h := r.Intn(w.c.Handlers); w.asked[h] == nil && r.Intn(2) == 0 {
			w.start(h, d.request(w.before))
		}
		if stay--; stay < 0 {
			pick, stay = r.Intn(w.c.Handlers), 0
			for range 4 { // mostly one that can go on
				if phase, _ := w.m.Phase(pick); w.asked[pick] == nil || w.m.On(pick) != -1 || phase == shunned {
					pick = r.Intn(w.c.Handlers)
				}
			}
			if r.Intn(20) == 0 {
				stay = r.Intn(40)
			}
		}
		if w.asked[pick] == nil {
			stay = 0
		} else {
			w.step(pick)
		}
	}
	runOut(w)
}

// runOut picks all in turn until nobody is at work.
func runOut(w *watch) {
	w.t.Helper()
	for n := 0; !w.idle() && !w.broken; n++ {
		if n > 20000 {
			w.fail("no end")
			return
		}
		w.step(n % w.c.Handlers)
	}
	w.ends()
}

// shop is a store for runs.
type shop struct {
	name       string
	c          api.Config
	lsn, epoch int
	operations int
	runs       int
	steps      int
}

func shops() []shop {
	few := []string{"a", "b"}
	some := []string{"a", "b", "c", "d", "e"}
	return []shop{
		{"one stripe", api.Config{Codes: few, Stripes: 1, Handlers: 3, Sectors: 200, Slot: 20}, 0, 1, 0, 6, 1200},
		{"two stripes", api.Config{Codes: some, Stripes: 2, Handlers: 3, Sectors: 200, Slot: 30}, 5, 1, 0, 5, 1200},
		{"sixteen stripes", api.Config{Codes: some, Stripes: 16, Handlers: 4, Sectors: 200, Slot: 30}, 0, 7, 0, 16, 1200},
		{"all stripes", api.Config{Codes: some, Stripes: 64, Handlers: 6, Sectors: 200, Slot: 30}, 0, 1, 0, 14, 1200},
		{"many handlers", api.Config{Codes: few, Stripes: 3, Handlers: 16, Sectors: 200, Slot: 20}, 0, 1, 0, 4, 1200},
		{"a little room", api.Config{Codes: few, Stripes: 3, Handlers: 4, Sectors: 60, Slot: 8}, 0, 1, 0, 8, 1200},
		{"a short log", api.Config{Codes: few, Stripes: 4, Handlers: 3, Sectors: 45, Slot: 20}, 0, 1, 0, 6, 1200},
		{"the last numbers", api.Config{Codes: few, Stripes: 3, Handlers: 4, Sectors: 120, Slot: 20}, api.MaxLsn - 9, 1, 0, 4, 1200},
		{"the last lives", api.Config{Codes: few, Stripes: 2, Handlers: 3, Sectors: 60, Slot: 20}, 0, api.MaxLife - 3, 0, 4, 1200},
		{"the last operations", api.Config{Codes: few, Stripes: 3, Handlers: 4, Sectors: 120, Slot: 12}, 0, 1, api.MaxOps - 60, 4, 1200},
	}
}

// TestP14_5_ManyRequests: requests of all kinds, in many orders of picks, at every step against the promises of section 14.4 (P14.5 to P14.9) and against the twin (P14.3, P14.4).
func TestP14_5_ManyRequests(t *testing.T) {
	tally := map[string]int{}
	for n, shop := range shops() {
		for i := range shop.runs {
			s := empty(shop.c)
			s.Lsn = shop.lsn
			w := watched(t, shop.c, s, shop.epoch, shop.operations, tally)
			play(w, rand.New(rand.NewSource(int64(1000*n+i))), n+i, shop.steps)
			if w.broken {
				t.Fatalf("%s, run %d", shop.name, i)
			}
		}
	}
	least := map[string]int{
		"a Read's point among others": 20, "busy Save": 3, "Read by locks": 10, "Read by counters": 100, "first reply": 50,
		"refused at Reserve": 20, "anew": 10, "effect without goods": 50, "two codes in one stripe": 50, "goods of several stripes": 50,
		"flushed by another": 100, "flushes for others": 20, "Save with records": 3, "Save without records": 20, "Save of several sectors": 20,
		"Collect of no record": 20,
	}
	for _, e := range []api.Errno{api.OK, api.ErrBusy, api.ErrOther, api.ErrNoCode, api.ErrOver, api.ErrStock, api.ErrThere, api.ErrNoHold, api.ErrFull, api.ErrEnd, api.ErrTtl, api.ErrLines} {
		least["error "+strconv.Itoa(int(e))] = 3
	}
	for kind := api.KindRestock; kind <= api.KindSave; kind++ {
		least["kind "+strconv.Itoa(kind)] = 50
	}
	for what, n := range least {
		if tally[what] < n {
			t.Errorf("%s: %d times only", what, tally[what])
		}
	}
}
