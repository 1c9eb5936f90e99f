package sched_test

import (
	"math/rand"
	"slices"
	"testing"

	"larder/api"
	"larder/sched"
)

func areApart(apart []api.Pair, a, b int) bool {
	return a != b && (slices.Contains(apart, api.Pair{A: a, B: b}) || slices.Contains(apart, api.Pair{A: b, B: a}))
}

// alikeOf answers all lists that come from picks by steps, found step by step; in order.
func alikeOf(picks []int, apart []api.Pair) [][]int {
	all := [][]int{picks}
	for at := 0; at < len(all); at++ {
		for i := 1; i < len(picks); i++ {
			l := slices.Clone(all[at])
			if !areApart(apart, l[i-1], l[i]) {
				continue
			}
			l[i-1], l[i] = l[i], l[i-1]
			if !slices.ContainsFunc(all, func(x []int) bool { return slices.Equal(x, l) }) {
				all = append(all, l)
			}
		}
	}
	slices.SortFunc(all, slices.Compare[[]int])
	return all
}

func TestP7_11LeastOfAllThatAreAlike(t *testing.T) {
	r := rand.New(rand.NewSource(11))
	for range 1500 {
		handlers := 1 + r.Intn(5)
		picks := randomPicks(r, handlers, r.Intn(7))
		apart := randomPairs(r, handlers, r.Intn(7))
		wantLeast(t, picks, apart, alikeOf(picks, apart)[0], api.OK)
	}
}

func TestP7_11PairsThatMakeNoOdds(t *testing.T) {
	r := rand.New(rand.NewSource(12))
	for range 500 {
		picks := randomPicks(r, 5, r.Intn(20))
		apart := randomPairs(r, 5, r.Intn(7))
		want, _ := sched.Least(picks, apart)
		var turned, more []api.Pair
		for _, p := range apart {
			turned = append(turned, api.Pair{A: p.B, B: p.A})
			more = append(more, p, p, api.Pair{A: p.A, B: p.A}, api.Pair{A: p.B, B: p.A}, api.Pair{A: 15, B: p.A})
		}
		wantLeast(t, picks, turned, want, api.OK)
		wantLeast(t, picks, more, want, api.OK)
	}
	wantLeast(t, of("1100"), []api.Pair{{A: 0, B: 0}, {A: 1, B: 1}}, of("1100"), api.OK)
	wantLeast(t, of("10"), []api.Pair{{A: 0, B: 1}, {A: 0, B: 1}, {A: 1, B: 0}}, of("01"), api.OK)
}

// A pick that could come first may stand behind picks that hold back others.
func TestP7_11LeastPastOthers(t *testing.T) {
	wantLeast(t, of("210"), []api.Pair{{A: 0, B: 1}}, of("201"), api.OK)
	wantLeast(t, of("1202"), []api.Pair{{A: 0, B: 1}, {A: 1, B: 2}}, of("1202"), api.OK)
	wantLeast(t, of("3120"), []api.Pair{{A: 0, B: 2}, {A: 1, B: 3}, {A: 0, B: 1}}, of("1302"), api.OK)
	wantLeast(t, of("3210"), []api.Pair{{A: 0, B: 1}, {A: 0, B: 2}, {A: 0, B: 3}}, of("0321"), api.OK)
	wantLeast(t, nil, []api.Pair{{A: 0, B: 1}}, nil, api.OK)
}

func TestP7_11LeastRefuses(t *testing.T) {
	long, most := make([]int, api.MaxLeast+1), make([]int, api.MaxLeast)
	many := append(allPairs(), api.Pair{})
	wantLeast(t, most, allPairs(), most, api.OK)
	wantLeast(t, long, nil, nil, api.ErrLong)
	wantLeast(t, nil, many, nil, api.ErrLong)
	wantLeast(t, []int{1, 0}, many, nil, api.ErrLong)
	for _, h := range append(extremes(), api.MaxHandlers) {
		wantLeast(t, []int{h}, nil, nil, api.ErrArg)
		wantLeast(t, []int{0, 1, h}, []api.Pair{{A: 0, B: 1}}, nil, api.ErrArg)
		for _, p := range []api.Pair{{A: h}, {B: h}, {A: h, B: h}} {
			wantLeast(t, nil, []api.Pair{p}, nil, api.ErrArg)
			wantLeast(t, of("10"), []api.Pair{{A: 0, B: 1}, p}, nil, api.ErrArg)
			wantLeast(t, of("10"), append(slices.Clone(many), p), nil, api.ErrLong)
		}
		// ErrLong is named ahead of ErrArg.
		wantLeast(t, append(slices.Clone(long), h), nil, nil, api.ErrLong)
		wantLeast(t, []int{h}, many, nil, api.ErrLong)
	}
	wantLeast(t, []int{api.MaxHandlers - 1, 0}, []api.Pair{{A: 0, B: api.MaxHandlers - 1}}, []int{0, api.MaxHandlers - 1}, api.OK)
}
