package sched_test

import (
	"math"
	"math/rand"
	"slices"
	"testing"

	"larder/api"
	"larder/sched"
)

// slowFair asks each window for each handler.
func slowFair(picks []int, handlers, k int) (bool, int) {
	for begin := 0; begin+k <= len(picks); begin++ {
		for h := range handlers {
			if !slices.Contains(picks[begin:begin+k], h) {
				return false, begin
			}
		}
	}
	return true, 0
}

func TestP7_6FairAsEachWindowTells(t *testing.T) {
	r := rand.New(rand.NewSource(6))
	for range 20000 {
		handlers := 1 + r.Intn(4)
		picks := randomPicks(r, handlers, r.Intn(30))
		k := 1 + r.Intn(33)
		ok, at := slowFair(picks, handlers, k)
		wantFair(t, picks, handlers, k, ok, at)
	}
}

func TestP7_6FairRefuses(t *testing.T) {
	for _, n := range append(extremes(), 0, api.MaxHandlers+1) {
		wantFair(t, nil, n, 1, false, -1)
		wantFair(t, []int{0}, n, 1, false, -1)
	}
	for _, k := range []int{0, -1, math.MinInt} {
		wantFair(t, nil, 1, k, false, -1)
		wantFair(t, []int{0}, 1, k, false, -1)
	}
	for _, h := range append(extremes(), 2, api.MaxHandlers) {
		wantFair(t, []int{h}, 2, 5, false, -1)
		wantFair(t, []int{0, 1, 0, h}, 2, 2, false, -1)
		// Though k of them lack one, further ahead.
		wantFair(t, []int{0, 0, 0, 0, h}, 2, 2, false, -1)
	}
	wantFair(t, make([]int, api.MaxPicks), 1, 1, true, 0)
	wantFair(t, make([]int, api.MaxPicks), 2, 3, false, 0)
	wantFair(t, make([]int, api.MaxPicks+1), 1, 1, false, -1)
}

func TestP7_6FairEdges(t *testing.T) {
	for handlers := 1; handlers <= api.MaxHandlers; handlers++ {
		wantFair(t, nil, handlers, 1, true, 0)
		wantFair(t, []int{handlers - 1}, handlers, 2, true, 0)
		wantFair(t, []int{0}, handlers, 1, handlers == 1, 0)
		wantFair(t, []int{0}, handlers, math.MaxInt, true, 0)
		wantFair(t, make([]int, api.MaxPicks), handlers, api.MaxPicks+1, true, 0)
		wantFair(t, make([]int, api.MaxPicks), handlers, api.MaxPicks, handlers == 1, 0)
	}
	// Just k picks, and the last k.
	wantFair(t, of("0110"), 2, 4, true, 0)
	wantFair(t, of("0000"), 2, 4, false, 0)
	wantFair(t, of("010111"), 2, 3, false, 3)
	wantFair(t, of("010110"), 2, 3, true, 0)
	wantFair(t, of("111010"), 2, 3, false, 0)
}

func TestP7_6FairOfMaxPicks(t *testing.T) {
	picks := slices.Collect(sched.Rounds(api.MaxHandlers))
	wantFair(t, picks, api.MaxHandlers, api.MaxHandlers, true, 0)
	wantFair(t, picks, api.MaxHandlers, api.MaxHandlers-1, false, 0)
	picks[api.MaxPicks-1] = 0
	wantFair(t, picks, api.MaxHandlers, api.MaxHandlers, false, api.MaxPicks-api.MaxHandlers)
}

func TestP7_7Rounds(t *testing.T) {
	for handlers := 1; handlers <= api.MaxHandlers; handlers++ {
		want := make([]int, api.MaxPicks)
		for i := range want {
			want[i] = i % handlers
		}
		if !slices.Equal(slices.Collect(sched.Rounds(handlers)), want) {
			t.Errorf("Rounds(%d)", handlers)
		}
	}
	for _, n := range append(extremes(), 0, api.MaxHandlers+1) {
		wantNoPicks(t, "Rounds", sched.Rounds(n))
	}
}

func TestP7_7RoundsLeftAndGoneOverAgain(t *testing.T) {
	seq := sched.Rounds(3)
	for n := 1; n < 8; n++ {
		if l := upTo(seq, n); !slices.Equal(l, of("0120120")[:n]) {
			t.Errorf("left: %v", l)
		}
	}
	if n := count(seq); n != api.MaxPicks {
		t.Errorf("again: %d", n)
	}
	outer := 0
	for h := range seq {
		if h != outer%3 || !slices.Equal(upTo(seq, 4), of("0120")) {
			t.Fatalf("nested: %d at %d", h, outer)
		}
		outer++
	}
	if outer != api.MaxPicks {
		t.Errorf("nested: %d", outer)
	}
}

// draws is the rule of the document, word by word.
func draws(state *uint64) uint64 {
	*state = *state + 0x9e3779b97f4a7c15
	z := *state
	moved := z / (1 << 30)
	z = z ^ moved
	z = z * 0xbf58476d1ce4e5b9
	moved = z / (1 << 27)
	z = z ^ moved
	z = z * 0x94d049bb133111eb
	moved = z / (1 << 31)
	return z ^ moved
}

func TestP7_7TheDrawsThatTheTestsHoldMixedTo(t *testing.T) {
	state := uint64(1234567)
	for i, want := range []uint64{6457827717110365317, 3203168211198807973, 9817491932198370423, 4593380528125082431, 16408922859458223821} {
		if z := draws(&state); z != want {
			t.Errorf("draw %d: %d, want %d", i, z, want)
		}
	}
}

// mixedOf answers n picks by blocks, one behind the other.
func mixedOf(seed uint64, handlers, k, n int) []int {
	state := seed
	var picks []int
	for len(picks) < n {
		var block []int
		for h := range handlers {
			block = append(block, h)
		}
		for len(block) < (k+1)/2 {
			block = append(block, int(draws(&state)%uint64(handlers)))
		}
		for i := len(block) - 1; i >= 1; i-- {
			j := draws(&state) % uint64(i+1)
			at := block[i]
			block[i] = block[j]
			block[j] = at
		}
		picks = append(picks, block...)
	}
	return picks[:n]
}

func TestP7_7MixedByBlocks(t *testing.T) {
	r := rand.New(rand.NewSource(77))
	for handlers := 1; handlers <= api.MaxHandlers; handlers++ {
		for _, k := range []int{2*handlers - 1, 2 * handlers, 2*handlers + 1, 100, 101, api.MaxFair - 1, api.MaxFair} {
			for _, seed := range []uint64{0, 1, 7, math.MaxUint64, r.Uint64()} {
				got := upTo(sched.Mixed(seed, handlers, k), 2000)
				if !slices.Equal(got, mixedOf(seed, handlers, k, 2000)) {
					t.Errorf("Mixed(%d, %d, %d): %v", seed, handlers, k, first(got))
				}
			}
		}
	}
}

func TestP7_7MixedToItsEnd(t *testing.T) {
	for _, x := range []struct {
		seed        uint64
		handlers, k int
	}{{3, 1, 1}, {4, 2, 3}, {5, 3, 9}, {6, 16, 31}, {7, 16, 1024}, {8, 5, 13}} {
		got := slices.Collect(sched.Mixed(x.seed, x.handlers, x.k))
		if !slices.Equal(got, mixedOf(x.seed, x.handlers, x.k, api.MaxPicks)) {
			t.Errorf("Mixed(%d, %d, %d): %d picks", x.seed, x.handlers, x.k, len(got))
		}
	}
}

func TestP7_7MixedRefuses(t *testing.T) {
	for _, n := range append(extremes(), 0, api.MaxHandlers+1) {
		for _, k := range []int{1, 100, api.MaxFair} {
			wantNoPicks(t, "Mixed, handlers", sched.Mixed(1, n, k))
		}
	}
	for handlers := 1; handlers <= api.MaxHandlers; handlers++ {
		for _, k := range append(extremes(), 0, 2*handlers-2, api.MaxFair+1) {
			wantNoPicks(t, "Mixed, k", sched.Mixed(1, handlers, k))
		}
		for _, k := range []int{2*handlers - 1, api.MaxFair} {
			if n := count(sched.Mixed(1, handlers, k)); n != api.MaxPicks {
				t.Errorf("Mixed(1, %d, %d): %d picks", handlers, k, n)
			}
		}
	}
}

func TestP7_7MixedLeftAndGoneOverAgain(t *testing.T) {
	seq := sched.Mixed(9, 3, 9)
	want := mixedOf(9, 3, 9, 40)
	for n := 1; n <= 40; n++ {
		if l := upTo(seq, n); !slices.Equal(l, want[:n]) {
			t.Errorf("left behind %d: %v", n, l)
		}
	}
	var outer []int
	for h := range seq {
		outer = append(outer, h)
		if !slices.Equal(upTo(seq, 7), want[:7]) {
			t.Errorf("nested")
		}
		if len(outer) == 40 {
			break
		}
	}
	if !slices.Equal(outer, want) {
		t.Errorf("around others: %v", outer)
	}
}

// allOf answers all lists of depth numbers, those of one number less each with one laid behind it.
func allOf(handlers, depth int) [][]int {
	all := [][]int{nil}
	for range depth {
		var longer [][]int
		for _, l := range all {
			for h := range handlers {
				longer = append(longer, append(slices.Clone(l), h))
			}
		}
		all = longer
	}
	return all
}

func TestP7_8All(t *testing.T) {
	for handlers := 1; handlers <= api.MaxHandlers; handlers++ {
		for depth := range 4 {
			wantLists(t, "All", sched.All(handlers, depth), allOf(handlers, depth))
		}
	}
	for depth := range 13 {
		wantLists(t, "All of 2", sched.All(2, depth), allOf(2, depth))
	}
	for depth := range api.MaxDepth + 1 {
		wantLists(t, "All of 1", sched.All(1, depth), [][]int{make([]int, depth)})
	}
}

func TestP7_8AllEdges(t *testing.T) {
	for _, x := range []struct{ handlers, depth int }{{2, 20}, {4, 10}, {16, 5}} {
		if n := count(sched.All(x.handlers, x.depth)); n != api.MaxAll {
			t.Errorf("All(%d, %d): %d lists", x.handlers, x.depth, n)
		}
	}
	for _, x := range []struct{ handlers, depth, lists int }{{3, 12, 531441}, {5, 8, 390625}, {15, 5, 759375}} {
		if n := count(sched.All(x.handlers, x.depth)); n != x.lists {
			t.Errorf("All(%d, %d): %d lists", x.handlers, x.depth, n)
		}
	}
	for _, x := range []struct{ handlers, depth int }{
		{2, 21}, {4, 11}, {16, 6}, {3, 13}, {5, 9}, {15, 6}, {2, 24}, {16, 16}, {16, 17}, {16, 24}, {8, 21}, {8, 22}, {4, 24}, {7, 24},
		{1, -1}, {2, -1}, {1, api.MaxDepth + 1}, {2, api.MaxDepth + 1}, {0, 0}, {0, 3}, {-1, 2}, {api.MaxHandlers + 1, 0}, {api.MaxHandlers + 1, 2},
	} {
		wantNoLists(t, "All", sched.All(x.handlers, x.depth))
	}
	for _, n := range extremes() {
		wantNoLists(t, "All", sched.All(n, 1))
		wantNoLists(t, "All", sched.All(1, n))
	}
}

func TestP7_8AllLeftAndGoneOverAgain(t *testing.T) {
	wantIterator(t, "All", sched.All(3, 3), sameLists)
	wantIterator(t, "All", sched.All(3, 0), sameLists)
}
