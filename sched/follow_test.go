package sched_test

import (
	"iter"
	"math/rand"
	"slices"
	"testing"

	"larder/api"
	"larder/sched"
)

func TestP7_12RoundsAndMixedAreFair(t *testing.T) {
	r := rand.New(rand.NewSource(12))
	for handlers := 1; handlers <= api.MaxHandlers; handlers++ {
		wantFair(t, slices.Collect(sched.Rounds(handlers)), handlers, handlers, true, 0)
		for range 4 {
			least := 2*handlers - 1
			k := least + r.Intn(api.MaxFair-least+1)
			wantFair(t, slices.Collect(sched.Mixed(r.Uint64(), handlers, k)), handlers, k, true, 0)
		}
		k := 2*handlers - 1
		wantFair(t, slices.Collect(sched.Mixed(r.Uint64(), handlers, k)), handlers, k, true, 0)
	}
}

// wantCountsBelow picks by a sequence while handlers stop and go on, and holds Longest to be below k.
func wantCountsBelow(t *testing.T, r *rand.Rand, picks iter.Seq[int], handlers, k int) {
	t.Helper()
	b := started(t, handlers)
	n := 0
	for h := range picks {
		b.Pick(h)
		if _, c := b.Longest(); c >= k {
			t.Errorf("%d handlers, %d-fair: Longest counts %d", handlers, k, c)
			return
		}
		switch r.Intn(12) {
		case 0:
			b.Block(r.Intn(handlers), r.Intn(3))
		case 1:
			b.Finish(r.Intn(handlers))
		case 2, 3, 4:
			b.Wake(r.Intn(3))
			b.Start(r.Intn(handlers))
		case 5:
			b.First(r.Intn(3))
		}
		if n++; n == 5000 {
			return
		}
	}
}

func TestP7_12FairPicksLetNobodyWait(t *testing.T) {
	r := rand.New(rand.NewSource(120))
	for handlers := 1; handlers <= api.MaxHandlers; handlers++ {
		wantCountsBelow(t, r, sched.Rounds(handlers), handlers, handlers)
		for _, k := range []int{2*handlers - 1, 2 * handlers, 5 * handlers, 200} {
			wantCountsBelow(t, r, sched.Mixed(r.Uint64(), handlers, k), handlers, k)
		}
	}
}

func TestP7_13RankOfNth(t *testing.T) {
	r := rand.New(rand.NewSource(13))
	for range 5000 {
		steps := randomSteps(r, 1+r.Intn(api.MaxHandlers), api.MaxDepth)
		all, e := sched.Count(steps)
		if e != api.OK {
			continue
		}
		n := r.Intn(all)
		l, e := sched.Nth(steps, n)
		if e != api.OK || !slices.Equal(stepsOf(l, len(steps)), steps) {
			t.Errorf("Nth(%v, %d): %v, %d", steps, n, l, e)
		}
		wantRank(t, l, n, api.OK)
		if n+1 < all {
			next, _ := sched.Nth(steps, n+1)
			if slices.Compare(l, next) >= 0 {
				t.Errorf("Nth(%v): %v stands ahead of %v", steps, l, next)
			}
		}
	}
}

// wantRising holds lists to be strictly rising, and answers how many there are.
func wantRising(t *testing.T, name string, seq iter.Seq[[]int]) int {
	t.Helper()
	var last []int
	n := 0
	for l := range seq {
		if n > 0 && slices.Compare(last, l) >= 0 {
			t.Errorf("%s: %v stands ahead of %v", name, last, l)
			return n
		}
		last = l
		n++
	}
	return n
}

func TestP7_13AllAreRising(t *testing.T) {
	for handlers := 1; handlers <= api.MaxHandlers; handlers++ {
		want := 1
		for depth := 0; want < 20000 && depth <= api.MaxDepth; depth++ {
			if n := wantRising(t, "All", sched.All(handlers, depth)); n != want {
				t.Errorf("All(%d, %d): %d lists, want %d", handlers, depth, n, want)
			}
			want *= handlers
		}
	}
}

func TestP7_13MixesAreRisingAndCounted(t *testing.T) {
	r := rand.New(rand.NewSource(130))
	for asked := 0; asked < 300; {
		steps := randomSteps(r, 1+r.Intn(api.MaxHandlers), api.MaxDepth)
		want, e := sched.Count(steps)
		if e != api.OK || want > 50000 {
			continue
		}
		asked++
		if n := wantRising(t, "Mixes", sched.Mixes(steps)); n != want {
			t.Errorf("Mixes(%v): %d, want %d", steps, n, want)
		}
		if n := wantRising(t, "Few", sched.Few(steps, api.MaxDepth)); n != want {
			t.Errorf("Few(%v, MaxDepth): %d, want %d", steps, n, want)
		}
		most := r.Intn(6)
		for l := range sched.Few(steps, most) {
			if n, e := sched.Switches(l); n > most || e != api.OK {
				t.Errorf("Few(%v, %d): %v has %d", steps, most, l, n)
			}
		}
		if n := wantRising(t, "Few", sched.Few(steps, most)); n > want {
			t.Errorf("Few(%v, %d): %d", steps, most, n)
		}
	}
}

// areAlike asks, without steps: lists of the same picks are alike if any two handlers that are not apart stand in the same order in both.
func areAlike(a, b []int, apart []api.Pair) bool {
	for g := range api.MaxHandlers {
		for h := range g + 1 {
			if areApart(apart, g, h) {
				continue
			}
			other := func(x int) bool { return x != g && x != h }
			if !slices.Equal(slices.DeleteFunc(slices.Clone(a), other), slices.DeleteFunc(slices.Clone(b), other)) {
				return false
			}
		}
	}
	return true
}

// shuffled lets neighbours that are apart change places, many times.
func shuffled(r *rand.Rand, picks []int, apart []api.Pair) []int {
	l := slices.Clone(picks)
	for range 20 * len(l) {
		if i := r.Intn(len(l)); i > 0 && areApart(apart, l[i-1], l[i]) {
			l[i-1], l[i] = l[i], l[i-1]
		}
	}
	return l
}

func TestP7_14LeastIsOneForAllThatAreAlike(t *testing.T) {
	r := rand.New(rand.NewSource(14))
	for range 300 {
		handlers := 1 + r.Intn(api.MaxHandlers)
		picks := randomPicks(r, handlers, r.Intn(api.MaxLeast+1))
		apart := randomPairs(r, handlers, r.Intn(api.MaxHandlers*api.MaxHandlers+1))
		least, e := sched.Least(picks, apart)
		if e != api.OK || len(least) != len(picks) || !areAlike(least, picks, apart) || slices.Compare(least, picks) > 0 {
			t.Errorf("Least(%v, %v): %v, %d", picks, apart, least, e)
		}
		wantLeast(t, least, apart, least, api.OK)
		for range 3 {
			wantLeast(t, shuffled(r, picks, apart), apart, least, api.OK)
		}
	}
}

// A list of a few picks is told from all that are not alike.
func TestP7_14LeastTellsOthersApart(t *testing.T) {
	r := rand.New(rand.NewSource(140))
	for range 2000 {
		steps := randomSteps(r, 4, 8)
		all, _ := sched.Count(steps)
		a, _ := sched.Nth(steps, r.Intn(all))
		b, _ := sched.Nth(steps, r.Intn(all))
		apart := randomPairs(r, 4, r.Intn(8))
		x, _ := sched.Least(a, apart)
		y, _ := sched.Least(b, apart)
		if slices.Equal(x, y) != areAlike(a, b, apart) {
			t.Errorf("%v and %v by %v: %v and %v", a, b, apart, x, y)
		}
	}
}

func TestP7_14LeastOfNoneAndOfAllPairs(t *testing.T) {
	r := rand.New(rand.NewSource(141))
	for range 300 {
		picks := randomPicks(r, 1+r.Intn(api.MaxHandlers), r.Intn(api.MaxLeast+1))
		wantLeast(t, picks, nil, picks, api.OK)
		rising := slices.Clone(picks)
		slices.Sort(rising)
		wantLeast(t, picks, allPairs(), rising, api.OK)
	}
}
