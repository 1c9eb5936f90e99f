package sched_test

import (
	"math/big"
	"math/rand"
	"slices"
	"testing"

	"larder/api"
	"larder/sched"
)

// mixesOf answers those of all lists in which each handler stands as often as its steps say.
func mixesOf(steps []int) [][]int {
	depth := 0
	for _, n := range steps {
		depth += n
	}
	var mixes [][]int
	for _, l := range allOf(len(steps), depth) {
		if slices.Equal(stepsOf(l, len(steps)), steps) {
			mixes = append(mixes, l)
		}
	}
	return mixes
}

func stepsOf(picks []int, handlers int) []int {
	steps := make([]int, handlers)
	for _, h := range picks {
		steps[h]++
	}
	return steps
}

// countOf is the factorial of all steps by those of each.
func countOf(steps []int) *big.Int {
	total := int64(0)
	under := big.NewInt(1)
	for _, n := range steps {
		total += int64(n)
		under.Mul(under, new(big.Int).MulRange(1, int64(n)))
	}
	over := new(big.Int).MulRange(1, total)
	return over.Div(over, under)
}

// notSteps are lists that are no steps.
func notSteps() [][]int {
	all := [][]int{nil, {}, make([]int, api.MaxHandlers+1), {api.MaxDepth + 1}, {api.MaxDepth, 1}, {0, 1, 0, api.MaxDepth}, {12, 12, 1}, {-1, 2}, {2, -1}, {25, -1}, {30, -10}}
	for _, n := range extremes() {
		all = append(all, []int{n}, []int{0, n}, []int{1, n, 1}, []int{n, n})
	}
	return all
}

func TestP7_9MixesAreThoseOfAllLists(t *testing.T) {
	r := rand.New(rand.NewSource(9))
	for range 300 {
		steps := randomSteps(r, 1+r.Intn(4), 6)
		wantLists(t, "Mixes", sched.Mixes(steps), mixesOf(steps))
	}
	wantLists(t, "Mixes with 0", sched.Mixes([]int{0, 2, 0, 1, 0}), lists("113", "131", "311"))
	wantLists(t, "Mixes of 0", sched.Mixes(make([]int, api.MaxHandlers)), [][]int{nil})
	wantLists(t, "Mixes of MaxDepth", sched.Mixes([]int{0, api.MaxDepth}), [][]int{slices.Repeat([]int{1}, api.MaxDepth)})
}

func TestP7_9MixesEdges(t *testing.T) {
	for _, steps := range notSteps() {
		wantNoLists(t, "Mixes", sched.Mixes(steps))
	}
	// The greatest number of mixes up to MaxAll, and the least above it.
	if n := count(sched.Mixes([]int{13, 1, 1, 1, 1, 1})); n != 1028160 {
		t.Errorf("Mixes: %d", n)
	}
	wantNoLists(t, "Mixes", sched.Mixes([]int{12, 5, 2}))
	wantNoLists(t, "Mixes", sched.Mixes([]int{12, 12}))
	wantNoLists(t, "Mixes", sched.Mixes([]int{3, 3, 3, 3, 2, 2, 1, 1, 1, 1, 1, 1, 1}))
	wantNoLists(t, "Mixes", sched.Mixes([]int{2, 2, 2, 2, 2, 2, 2, 2, 1, 1, 1, 1, 1, 1, 1, 1}))
}

func TestP7_9MixesLeftAndGoneOverAgain(t *testing.T) {
	wantIterator(t, "Mixes", sched.Mixes([]int{2, 1, 2}), sameLists)
	wantIterator(t, "Mixes of 0", sched.Mixes([]int{0, 0}), sameLists)
}

func TestP7_9Count(t *testing.T) {
	for _, steps := range notSteps() {
		wantCount(t, steps, 0, api.ErrArg)
	}
	wantCount(t, []int{0}, 1, api.OK)
	wantCount(t, make([]int, api.MaxHandlers), 1, api.OK)
	wantCount(t, []int{api.MaxDepth}, 1, api.OK)
	wantCount(t, []int{0, api.MaxDepth, 0}, 1, api.OK)
	wantCount(t, []int{api.MaxDepth - 1, 1}, api.MaxDepth, api.OK)
	wantCount(t, []int{12, 12}, 2704156, api.OK)
	wantCount(t, slices.Repeat([]int{1}, api.MaxHandlers), 20922789888000, api.OK)
}

func TestP7_9CountLarge(t *testing.T) {
	// The greatest number up to 2^62, and the least above it.
	wantCount(t, []int{6, 4, 2, 2, 2, 1, 1, 1, 1, 1, 1, 1, 1}, 4488197350500864000, api.OK)
	wantCount(t, []int{1, 1, 1, 1, 1, 1, 1, 1, 2, 2, 2, 4, 6}, 4488197350500864000, api.OK)
	wantCount(t, []int{3, 3, 3, 3, 2, 2, 1, 1, 1, 1, 1, 1, 1}, 0, api.ErrLarge)
	wantCount(t, []int{1, 1, 1, 1, 1, 1, 1, 2, 2, 3, 3, 3, 3}, 0, api.ErrLarge)
	wantCount(t, []int{2, 2, 2, 2, 2, 2, 2, 2, 1, 1, 1, 1, 1, 1, 1, 1}, 0, api.ErrLarge)
	// ErrArg is named ahead of it.
	wantCount(t, []int{2, 2, 2, 2, 2, 2, 2, 2, 1, 1, 1, 1, 1, 1, 1, 2}, 0, api.ErrArg)
	wantCount(t, []int{2, 2, 2, 2, 2, 2, 2, 2, 1, 1, 1, 1, 1, 1, 1, -1}, 0, api.ErrArg)
	wantCount(t, []int{2, 2, 2, 2, 2, 2, 2, 2, 1, 1, 1, 1, 1, 1, 1, 1, 0}, 0, api.ErrArg)
}

func TestP7_9CountAsFactorialsTell(t *testing.T) {
	r := rand.New(rand.NewSource(99))
	most := new(big.Int).Lsh(big.NewInt(1), 62)
	large := 0
	for range 20000 {
		steps := randomSteps(r, 1+r.Intn(api.MaxHandlers), api.MaxDepth)
		want := countOf(steps)
		if want.Cmp(most) > 0 {
			large++
			wantCount(t, steps, 0, api.ErrLarge)
		} else {
			wantCount(t, steps, int(want.Int64()), api.OK)
		}
	}
	if large == 0 || large == 20000 {
		t.Errorf("%d large ones: the test asks too little", large)
	}
}

func TestP7_9NthAndRankOfAllMixes(t *testing.T) {
	r := rand.New(rand.NewSource(999))
	for range 200 {
		steps := randomSteps(r, 1+r.Intn(4), 6)
		mixes := mixesOf(steps)
		for n, l := range mixes {
			wantNth(t, steps, n, l, api.OK)
			wantRank(t, l, n, api.OK)
		}
		for _, n := range append(extremes(), len(mixes), len(mixes)+1) {
			wantNth(t, steps, n, nil, api.ErrArg)
		}
	}
}

func TestP7_9NthRefuses(t *testing.T) {
	for _, steps := range notSteps() {
		wantNth(t, steps, 0, nil, api.ErrArg)
		wantNth(t, steps, -1, nil, api.ErrArg)
	}
	large := []int{3, 3, 3, 3, 2, 2, 1, 1, 1, 1, 1, 1, 1}
	// Count's error is named ahead of ErrArg.
	for _, n := range append(extremes(), 0, 1) {
		wantNth(t, large, n, nil, api.ErrLarge)
	}
}

// The first and the last of very many are the rising and the falling one.
func TestP7_9NthAtTheEnds(t *testing.T) {
	for _, steps := range [][]int{{6, 4, 2, 2, 2, 1, 1, 1, 1, 1, 1, 1, 1}, {1, 1, 1, 1, 1, 1, 1, 1, 2, 2, 2, 4, 6}, {12, 12}, {0, 24, 0}, {1, 0, 23}, slices.Repeat([]int{1}, 16), make([]int, 16)} {
		var rising []int
		for h, n := range steps {
			rising = append(rising, slices.Repeat([]int{h}, n)...)
		}
		falling := slices.Clone(rising)
		slices.Reverse(falling)
		last := int(countOf(steps).Int64()) - 1
		wantNth(t, steps, 0, rising, api.OK)
		wantNth(t, steps, last, falling, api.OK)
		wantNth(t, steps, last+1, nil, api.ErrArg)
		wantNth(t, steps, -1, nil, api.ErrArg)
		wantRank(t, rising, 0, api.OK)
		wantRank(t, falling, last, api.OK)
	}
}

func TestP7_9RankEdges(t *testing.T) {
	wantRank(t, nil, 0, api.OK)
	wantRank(t, []int{}, 0, api.OK)
	wantRank(t, make([]int, api.MaxDepth), 0, api.OK)
	wantRank(t, slices.Repeat([]int{api.MaxHandlers - 1}, api.MaxDepth), 0, api.OK)
	wantRank(t, make([]int, api.MaxDepth+1), 0, api.ErrArg)
	for _, h := range append(extremes(), api.MaxHandlers) {
		wantRank(t, []int{h}, 0, api.ErrArg)
		wantRank(t, []int{1, 0, h}, 0, api.ErrArg)
	}
	large := append(slices.Collect(func(yield func(int) bool) {
		for h := range api.MaxHandlers {
			if !yield(h) {
				return
			}
		}
	}), of("01234567")...)
	wantRank(t, large, 0, api.ErrLarge)
	// ErrArg is named ahead of it.
	wantRank(t, append(slices.Clone(large[:23]), api.MaxHandlers), 0, api.ErrArg)
	wantRank(t, append(slices.Clone(large), 0), 0, api.ErrArg)
	// Handlers that do not stand in picks, ahead of the greatest one, make no odds.
	wantRank(t, []int{15, 3, 15}, 1, api.OK)
}
