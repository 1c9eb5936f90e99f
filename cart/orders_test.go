package cart_test

import (
	"fmt"
	"slices"
	"strings"
	"testing"

	"larder/api"
	"larder/cart"
	"larder/disk"
	"larder/stock"
)

// pair is two requests side by side.
type pair struct {
	name     string
	x, y     api.Request
	outcomes int // in how many ways they may come out, at least
}

// board plays two requests pick by pick.
type board struct {
	t     *testing.T
	c     api.Config
	s     api.State
	image []byte
	m     *cart.Shared
	r     [2]api.Request
	reads [2]glance
	turns int // steps that turn a counter
}

// glance is what a Read's next steps hang on and does not show.
type glance struct {
	failures int
	counters string
	levels   string
	points   int // at its last Look
	must     string
}

func boardOf(t *testing.T, stripes int) *board {
	t.Helper()
	c := api.Config{Codes: []string{"a", "b"}, Stripes: stripes, Handlers: 2, Sectors: 30, Slot: 10}
	s := empty(c)
	s.Levels[0].OnHand, s.Levels[1].OnHand = 5, 2
	s = holding(s, "k", 7, line("a", 1), line("b", 1))
	return &board{t: t, c: c, s: s, image: diskOf(t, c, s, 1, 0).Image()}
}

// begin starts both anew.
func (b *board) begin(p pair) {
	b.t.Helper()
	d, _ := disk.New(b.image, b.c.Sectors)
	m, e := cart.New(d, b.c, b.s, 1)
	if e != api.OK || m.Start(0, p.x) != api.OK || m.Start(1, p.y) != api.OK {
		b.t.Fatalf("New: %d", e)
	}
	b.m, b.r, b.reads, b.turns = m, [2]api.Request{p.x, p.y}, [2]glance{}, 0
}

func (b *board) pick(h int) {
	b.t.Helper()
	phase, _ := b.m.Phase(h)
	g := &b.reads[h]
	if !b.m.Step(h) {
		b.t.Fatalf("%s: no step", named(phase, 0))
	}
	switch next, i := b.m.Phase(h); phase {
	case api.PhaseOdd, api.PhaseEven:
		b.turns++
	case api.PhaseSeq, api.PhaseAgain:
		if next == api.PhaseTicket || next == api.PhaseSeq && i == 0 {
			*g = glance{failures: g.failures + 1}
		} else if phase == api.PhaseSeq {
			g.counters += fmt.Sprint(b.turns, " ")
		} else {
			g.must += fmt.Sprint(b.lasts())
		}
	case api.PhaseLook:
		g.levels, g.points = g.levels+fmt.Sprint(b.m.State().Levels), len(b.m.Points())
	}
}

func (b *board) lasts() []int {
	var l []int
	for s := range b.c.Stripes {
		l = append(l, b.m.Last(s))
	}
	return l
}

// ready answers who can go on, and whether nobody is at work.
func (b *board) ready() (l []int, idle bool) {
	idle = true
	for h := range 2 {
		phase, _ := b.m.Phase(h)
		idle = idle && phase == api.PhaseIdle
		if phase != api.PhaseIdle && b.m.On(h) == -1 {
			l = append(l, h)
		}
	}
	return l, idle
}

// key answers all that what follows hangs on.
func (b *board) key() string {
	var k strings.Builder
	for h := range 2 {
		phase, i := b.m.Phase(h)
		x, told := b.m.Reply(h)
		fmt.Fprint(&k, phase, " ", i, " ", b.m.On(h), " ", b.m.Number(h), b.reads[h], x, told)
	}
	fmt.Fprint(&k, b.turns, b.m.Points(), b.m.View(), b.m.State(), b.lasts())
	return k.String()
}

// ended: P14.5 to P14.7 of two requests that have ended; it answers how they came out.
func (b *board) ended() string {
	b.t.Helper()
	points := b.m.Points()
	l, _ := stock.From(b.s)
	lsn, outcome := b.s.Lsn, ""
	for _, p := range points {
		reply := l.Do(b.r[p.Handler])
		got, _ := b.m.Reply(p.Handler)
		if !sameReply(got, reply) {
			b.t.Errorf("%s: %s; a ledger: %s", show(b.r[p.Handler]), show(got), show(reply))
		}
		outcome += fmt.Sprint(p.Handler, got.Err, got.Levels, got.Now, " ")
		if p.Lsn > 0 {
			lsn++
		}
	}
	if v := b.m.View(); len(points) != 2 || points[0].Handler == points[1].Handler || v.Given != lsn || v.Durable != lsn || v.Flusher != -1 || v.Reserved != v.Weight {
		b.t.Errorf("points %v, view %+v", points, v)
	}
	if !sameState(b.m.State(), l.State()) {
		b.t.Errorf("state %s; a ledger: %s", show(b.m.State()), show(l.State()))
	}
	return outcome
}

// orders goes through all orders of picks, one by one.
func (b *board) orders(p pair, most int) (orders int, outcomes map[string]int) {
	b.t.Helper()
	outcomes = map[string]int{}
	var picks, last []int // and the last that could have been picked there
	for {
		b.begin(p)
		for i := 0; ; i++ {
			ready, idle := b.ready()
			if idle {
				break
			}
			if len(ready) == 0 || i > 200 {
				b.t.Fatalf("%s: stuck behind %v", p.name, picks[:i])
			}
			if i == len(picks) {
				picks, last = append(picks, ready[0]), append(last, ready[len(ready)-1])
			}
			b.pick(picks[i])
		}
		outcomes[b.ended()]++
		if orders++; b.t.Failed() || orders > most {
			b.t.Fatalf("%s: %d orders, picks %v", p.name, orders, picks)
		}
		n := len(picks)
		for n > 0 && picks[n-1] == last[n-1] {
			n--
		}
		if n == 0 {
			return orders, outcomes
		}
		picks[n-1] = last[n-1]
		picks, last = picks[:n], last[:n]
	}
}

// standings goes through all that can be come to by any order of picks: from each standing on by one order to it, since all others that come there go on alike.
func (b *board) standings(p pair, most int) (standings int, outcomes map[string]int) {
	b.t.Helper()
	outcomes = map[string]int{}
	known := map[string]bool{}
	for paths := [][]int{nil}; len(paths) > 0; {
		path := paths[len(paths)-1]
		paths = paths[:len(paths)-1]
		b.begin(p)
		for _, h := range path {
			b.pick(h)
		}
		ready, idle := b.ready()
		if idle {
			outcomes[b.ended()]++
		} else if len(ready) == 0 {
			b.t.Fatalf("%s: stuck behind %v", p.name, path)
		}
		for _, h := range ready {
			if h != ready[0] {
				b.begin(p)
				for _, h := range path {
					b.pick(h)
				}
			}
			b.pick(h)
			if k := b.key(); !known[k] {
				known[k] = true
				paths = append(paths, append(slices.Clone(path), h))
			}
		}
		if b.t.Failed() || len(known) > most {
			b.t.Fatalf("%s: %d standings, picks %v", p.name, len(known), path)
		}
	}
	return len(known), outcomes
}

// TestP14_5_AllOrders: every order of picks of two short requests.
func TestP14_5_AllOrders(t *testing.T) {
	for _, p := range []pair{
		{"a Read and a Read", read("r", "a", "b"), read("s", "b"), 2},
		{"a Read and a refusal", read("r", "a"), writeoff("w", line("a", 9)), 2},
		{"a Read and one that is not well formed", read("r", "a", "b"), hold("i", 0, line("a", 1)), 2},
		{"two refusals", writeoff("v", line("b", 9)), commit("w", "no"), 2},
	} {
		orders, outcomes := boardOf(t, 1).orders(p, 100000)
		if orders < 20 || len(outcomes) != p.outcomes {
			t.Errorf("%s: %d orders, %v", p.name, orders, outcomes)
		}
	}
}

// TestP14_5_AllStandings: all that two requests can come to by any order of picks, in one stripe and in several.
func TestP14_5_AllStandings(t *testing.T) {
	h := hold("h", 9, line("a", 3))
	for _, p := range []pair{
		{"a Read and a Restock", read("r", "a"), restock("1", line("a", 4)), 2},
		{"a Read and a Commit of two codes", read("r", "a", "b"), commit("c", "k"), 2},
		{"two Holds of one code", h, hold("i", 9, line("a", 3)), 2},
		{"the same request twice", h, h, 2},
		{"another request by the same Id", h, restock("h", line("b", 1)), 2},
		{"a Hold and a Commit of it", h, commit("c", "h"), 2},
		{"a Hold and an Extend of it", h, extend("e", "h", 4), 2},
		{"a Commit and a Release", commit("c", "k"), release("d", "k"), 2},
		{"a Tick and a Commit", tick("t", 7), commit("c", "k"), 2},
		{"a Tick and a Read", tick("t", 7), read("r", "b"), 2},
		{"a Save and a Restock", save("s"), restock("1", line("a", 4)), 2},
		{"a Save and a Save", save("s"), save("u"), 2},
		{"two Restocks of two codes", restock("1", line("a", 4)), restock("2", line("b", 4)), 2},
	} {
		for _, stripes := range []int{1, 2, 4} {
			standings, outcomes := boardOf(t, stripes).standings(p, 30000)
			if standings < 50 || len(outcomes) < p.outcomes {
				t.Errorf("%s: %d standings, %v", p.name, standings, outcomes)
			}
		}
	}
}
