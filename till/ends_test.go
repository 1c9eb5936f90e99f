package till_test

import (
	"math/rand"
	"testing"

	"larder/api"
)

// TestP15_11_SideBySide: many requests of all kinds side by side, again and again: Run comes to where no handler is at work, within a number of picks.
func TestP15_11_SideBySide(t *testing.T) {
	for seed := range 40 {
		c := shops()[seed%len(shops())].c
		if seed%3 == 0 {
			c.Handlers = 16
		}
		u := fresh(t, c)
		d := &writer{r: rand.New(rand.NewSource(int64(seed))), codes: c.Codes, calm: seed%2 == 0}
		for round := range 12 {
			for h := range c.Handlers {
				ask(t, u, h, d.request(u.State()))
			}
			for range d.r.Intn(60) {
				u.Pick(d.r.Intn(c.Handlers))
			}
			n := u.Run(api.MaxPlay)
			if !isIdle(u, c) || n > 2048*c.Handlers*c.Handlers {
				t.Fatalf("seed %d, round %d: %d picks, ready: %v", seed, round, n, u.Ready())
			}
			if again := u.Run(api.MaxPlay); again != 0 {
				t.Fatalf("%d picks when nobody is at work", again)
			}
			for _, o := range u.Story().Ops {
				if o.Open {
					t.Fatalf("seed %d, round %d: still open: %s", seed, round, show(o))
				}
			}
			wantHolds(t, u, c)
		}
	}
}

// TestP15_11_Enough: Run ends there with any number of picks that is enough, and not with one less.
func TestP15_11_Enough(t *testing.T) {
	c := wide()
	for seed := range 10 {
		d := &writer{r: rand.New(rand.NewSource(int64(seed))), codes: c.Codes}
		var list []api.Request
		for range c.Handlers {
			list = append(list, d.request(empty(c)))
		}
		all := 0
		for _, cut := range []int{0, 1} {
			u := fresh(t, c)
			for h, r := range list {
				ask(t, u, h, r)
			}
			if cut == 0 {
				all = u.Run(api.MaxPlay)
			} else {
				want(t, "picks, with one less", u.Run(all-1), all-1)
			}
			want(t, "nobody is at work", isIdle(u, c), cut == 0)
		}
	}
}

// TestP15_11_WhateverTheOthersDo: a request ends that is picked in turn with others, to which new requests come as soon as they are idle.
func TestP15_11_WhateverTheOthersDo(t *testing.T) {
	for seed := range 30 {
		c := shops()[seed%8].c
		c.Handlers = 5
		u := fresh(t, c)
		d := &writer{r: rand.New(rand.NewSource(int64(seed))), codes: c.Codes, calm: seed%2 == 0}
		for _, r := range []api.Request{restock("my", line("a", 1)), read("r", "a", "b"), save("s"), tick("t", 5), commit("c", "nobody"), hold("h", 5, line("a", 1), line("b", 1))} {
			ask(t, u, 2, r)
			rounds := 0
			for phase := api.PhaseBegin; phase != api.PhaseIdle; phase, _ = u.Phase(2) {
				for h := range c.Handlers {
					if phase, _ := u.Phase(h); phase == api.PhaseIdle && h != 2 {
						ask(t, u, h, d.request(u.State()))
					}
					u.Pick(h)
				}
				if rounds++; rounds > 4000 {
					t.Fatalf("seed %d: %s does not end", seed, show(r))
				}
			}
		}
		u.Run(api.MaxPlay)
		want(t, "nobody is at work", isIdle(u, c), true)
		wantHolds(t, u, c)
	}
}
