package till_test

import (
	"math/rand"
	"slices"
	"testing"

	"larder/api"
	"larder/lin"
)

// few plays a short run with power failures, of as many requests as lin searches, and answers its till.
func few(t *testing.T, d *writer, c api.Config) *pair {
	t.Helper()
	p := pairOf(t, formatted(t, c), c, nil)
	for asked := 0; asked < api.MaxSearch || d.r.Intn(40) > 0; {
		h := d.r.Intn(c.Handlers)
		switch {
		case asked < api.MaxSearch && p.w.work[h] == nil && d.r.Intn(3) == 0:
			p.ask(h, d.request(p.w.m.State()))
			asked++
		case d.r.Intn(60) == 0:
			p.crash(d.failure(len(p.w.d.Pending())))
		default:
			p.pick(h)
		}
	}
	return p
}

// TestP15_7_Found: of short runs lin.Order finds an order, too, that is not greater than the story's; nothing ever goes wrong in them, and of a reply that is another nothing holds.
func TestP15_7_Found(t *testing.T) {
	tally := map[string]int{}
	for seed := range 250 {
		c := []api.Config{plain(), wide()}[seed%2]
		p := few(t, &writer{r: rand.New(rand.NewSource(int64(160 + seed))), codes: c.Codes, calm: true}, c)
		s, start := p.u.Story(), p.u.Start()
		if p.broken {
			t.Fatalf("run %d", seed)
		}
		order, good, e := lin.Order(s.Ops, start)
		if !good || e != api.OK || slices.Compare(order, s.Order) > 0 {
			t.Fatalf("Order: %v, %v, %d: %s", order, good, e, storyWords(s))
		}
		if at, bad, e := lin.Least(s.Ops, start); at != 0 || bad || e != api.OK {
			t.Fatalf("Least: %d, %v, %d: %s", at, bad, e, storyWords(s))
		}
		for moment := -1; moment <= s.Moment+1; moment++ {
			if _, good, e := lin.Order(lin.Until(s.Ops, moment), start); !good || e != api.OK {
				t.Fatalf("Until(%d): %v, %d: %s", moment, good, e, storyWords(s))
			}
		}
		for i, o := range s.Ops {
			if o.Open {
				tally["open"]++
				continue
			}
			tally["told"]++
			s.Ops[i].Reply.Line += 7
			if good, e := lin.Holds(s.Ops, s.Order, start); good || e != api.OK {
				t.Fatalf("op %d with a wrong reply: %v, %d: %s", i, good, e, storyWords(s))
			}
			s.Ops[i].Reply.Line -= 7
		}
		tally["lives"] += s.Lives
		tally["ops in the order that are open"] += len(s.Order)
		for _, o := range s.Ops {
			if !o.Open {
				tally["ops in the order that are open"]--
			}
		}
		if !slices.IsSorted(s.Order) {
			tally["an order that goes back"]++
		}
	}
	t.Log(tally)
	wantTally(t, tally, map[string]int{"open": 200, "told": 600, "lives": 500, "ops in the order that are open": 25, "an order that goes back": 20})
}

// TestP15_7_WholeStory: of a story at every act of a longer run, what was seen at an earlier moment, by lin.Until, is what the story was then.
func TestP15_7_WholeStory(t *testing.T) {
	c := wide()
	for seed := range 6 {
		d := &writer{r: rand.New(rand.NewSource(int64(1600 + seed))), codes: c.Codes, calm: true}
		p := pairOf(t, formatted(t, c), c, nil)
		var was []api.Story
		for range 150 {
			h := d.r.Intn(c.Handlers)
			switch {
			case p.w.work[h] == nil:
				p.ask(h, d.request(p.w.m.State()))
			case d.r.Intn(40) == 0:
				p.crash(d.failure(len(p.w.d.Pending())))
			default:
				p.pick(h)
			}
			was = append(was, p.u.Story())
		}
		last := was[len(was)-1]
		for _, s := range was {
			if s.Busy < last.Busy { // who was told ErrBusy is no op, and was one until then
				continue
			}
			if seen := lin.Until(last.Ops, s.Moment); !slices.EqualFunc(seen, s.Ops, sameOp) {
				t.Fatalf("at moment %d: %s, the story was %s", s.Moment, show(seen), storyWords(s))
			}
		}
	}
}
