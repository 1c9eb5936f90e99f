package till_test

import (
	"bytes"
	"math/rand"
	"testing"

	"larder/api"
)

// scene is some requests side by side, one a handler, behind others that were done one by one, and in which order the handlers are picked.
type scene struct {
	name  string
	ahead []api.Request
	side  []api.Request
	order func(r *rand.Rand, n, handlers int) int
}

func inTurn(_ *rand.Rand, n, handlers int) int { return n % handlers }

func atRandom(r *rand.Rand, _, handlers int) int { return r.Intn(handlers) }

// lastFirst lets the last handler go on, the others now and then.
func lastFirst(_ *rand.Rand, n, handlers int) int {
	if n%4 == 3 {
		return n / 4 % handlers
	}
	return handlers - 1
}

func scenes() []scene {
	some := []api.Request{restock("0", line("a", 5), line("b", 4), line("c", 3)), hold("h", 10, line("a", 2), line("b", 2))}
	var l []scene
	for _, order := range []func(*rand.Rand, int, int) int{inTurn, atRandom, lastFirst} {
		l = append(l,
			scene{"alone", nil, []api.Request{restock("1", line("a", 5))}, order},
			scene{"two holds", some, []api.Request{hold("i", 10, line("a", 2)), hold("j", 10, line("a", 2))}, order},
			scene{"goods apart", some, []api.Request{restock("1", line("a", 5)), writeoff("2", line("b", 1)), hold("3", 9, line("c", 1))}, order},
			scene{"a Read beside", some, []api.Request{commit("1", "h"), read("r", "a", "b"), restock("2", line("c", 1))}, order},
			scene{"one request twice", some, []api.Request{release("1", "h"), release("1", "h"), commit("2", "h")}, order},
			scene{"a Tick", some, []api.Request{extend("1", "h", 20), tick("t", 10), hold("3", 5, line("a", 1))}, order},
			scene{"a Save", some, []api.Request{restock("1", line("d", 1)), save("s"), commit("2", "h")}, order},
		)
	}
	return l
}

// set answers a pair in which a scene was played so many picks far; false, if it has fewer.
func (x scene) set(t *testing.T, c api.Config, image []byte, picks int) (*pair, bool) {
	t.Helper()
	p := &pair{t: t, u: opened(t, image, c), w: twinOf(t, image, c, nil)}
	for h, q := range x.side {
		p.u.Ask(h, q)
		p.w.ask(h, q)
	}
	r := rand.New(rand.NewSource(4))
	for n := range picks {
		if p.w.isIdle() {
			return p, false
		}
		h := x.order(r, n, c.Handlers)
		p.u.Pick(h)
		p.w.pick(h)
	}
	return p, true
}

// TestP15_7_EveryMoment: the power fails behind every pick of some scenes, in every way that the disk goes over, or in many of very many; behind it all are asked again and run out.
func TestP15_7_EveryMoment(t *testing.T) {
	looked, kept := 0, map[int]int{}
	for i, x := range scenes() {
		c := wide()
		c.Handlers, c.Stripes = len(x.side), 11
		u := fresh(t, c)
		for _, r := range x.ahead {
			done(t, u, 0, r)
		}
		image := u.Image()
		for n := 0; ; n++ {
			p, more := x.set(t, c, image, n)
			if !more {
				break
			}
			tried := 0
			for choice := range p.w.d.Choices(p.w.d.Count()) {
				if tried++; tried > 40 && tried%16 != 0 { // a checkpoint's writes: some of very many
					continue
				}
				p, _ := x.set(t, c, image, n)
				x.lost(p, choice)
				looked++
				kept[p.w.back.Lsn-p.w.start.Lsn]++
				if p.broken {
					t.Fatalf("scene %d: %s, %d picks, %s", i, x.name, n, show(choice))
				}
			}
		}
	}
	t.Logf("%d failures, effects that came back: %v", looked, kept)
	if looked < 2000 || kept[0] < 100 || kept[1] < 100 || kept[2] < 30 {
		t.Errorf("too little was looked at: %d, %v", looked, kept)
	}
}

// lost lets the power fail, and asks all again.
func (x scene) lost(p *pair, choice api.Crash) {
	p.t.Helper()
	p.compare("picks")
	durable := p.u.View().Durable
	if e := p.crash(choice); e != api.OK {
		p.fail("Crash: %d", e)
	}
	if lsn := p.u.State().Lsn; lsn < durable {
		p.fail("%d effects were durable, %d came back", durable, lsn)
	}
	for h, q := range x.side {
		p.ask(h, q)
	}
	p.run(api.MaxPlay)
	if !p.w.isIdle() {
		p.fail("somebody is still at work")
	}
}

// TestP15_7_EveryByte: a write is torn at every byte: there is no effect, but if what is left is all of it. (The last bytes of a log's sector may be zeros, as they were.)
func TestP15_7_EveryByte(t *testing.T) {
	c := plain()
	r := restock("1", line("a", 5))
	halves := 0
	for size := range api.SectorBytes + 1 {
		p := pairOf(t, formatted(t, c), c, nil)
		p.ask(0, r)
		for phase := 0; phase != api.PhaseBarrier; phase, _ = p.u.Phase(0) {
			p.pick(0)
		}
		whole := p.w.d.Image()
		left, _ := p.w.d.At(p.w.d.Count(), torn(0, size))
		p.crash(torn(0, size))
		s := api.Story{Ops: []api.Op{{Request: r, Begin: 1, End: p.w.moment, Open: true}}, State: empty(c), Lives: 2, Moment: p.w.moment}
		if bytes.Equal(left, whole) {
			s.Order, s.State = []int{0}, behind(t, empty(c), r)
		} else {
			halves++
		}
		if got := p.u.Story(); !sameStory(got, s) {
			t.Errorf("torn at %d: %s", size, storyWords(got))
		}
	}
	if halves < 120 {
		t.Errorf("%d were torn alone", halves)
	}
}
