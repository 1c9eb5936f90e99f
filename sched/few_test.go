package sched_test

import (
	"math"
	"math/rand"
	"slices"
	"testing"

	"larder/api"
	"larder/sched"
)

// switchesOf asks at each place whether the handler ahead of it comes again.
func switchesOf(picks []int) int {
	n := 0
	for i := range picks {
		if i > 0 && picks[i] != picks[i-1] && slices.Contains(picks[i+1:], picks[i-1]) {
			n++
		}
	}
	return n
}

func TestP7_10Switches(t *testing.T) {
	for _, x := range []struct {
		picks string
		n     int
	}{{"0", 0}, {"00", 0}, {"01", 0}, {"010", 1}, {"0101", 2}, {"001100", 1}, {"012012", 3}, {"012210", 2}, {"3210", 0}, {"0120", 1}, {"01110", 1}, {"01010101", 6}} {
		wantSwitches(t, of(x.picks), x.n, api.OK)
	}
	wantSwitches(t, nil, 0, api.OK)
	r := rand.New(rand.NewSource(10))
	for range 20000 {
		picks := randomPicks(r, 1+r.Intn(api.MaxHandlers), r.Intn(40))
		wantSwitches(t, picks, switchesOf(picks), api.OK)
	}
}

func TestP7_10SwitchesEdges(t *testing.T) {
	picks := slices.Collect(sched.Rounds(2))
	wantSwitches(t, picks, api.MaxPicks-2, api.OK)
	wantSwitches(t, append(slices.Clone(picks), 0), 0, api.ErrLong)
	wantSwitches(t, make([]int, api.MaxPicks), 0, api.OK)
	wantSwitches(t, make([]int, api.MaxPicks+1), 0, api.ErrLong)
	for _, h := range append(extremes(), api.MaxHandlers) {
		wantSwitches(t, []int{h}, 0, api.ErrArg)
		wantSwitches(t, []int{0, 1, 0, h, 1}, 0, api.ErrArg)
		// ErrArg is named ahead of ErrLong.
		wantSwitches(t, append(make([]int, api.MaxPicks+1), h), 0, api.ErrArg)
	}
	wantSwitches(t, []int{api.MaxHandlers - 1, 0, api.MaxHandlers - 1}, 1, api.OK)
}

func fewOf(steps []int, most int) [][]int {
	var few [][]int
	for _, l := range mixesOf(steps) {
		if switchesOf(l) <= most {
			few = append(few, l)
		}
	}
	return few
}

func TestP7_10FewAreThoseOfAllMixes(t *testing.T) {
	r := rand.New(rand.NewSource(100))
	for range 150 {
		steps := randomSteps(r, 1+r.Intn(4), 6)
		for most := range 7 {
			wantLists(t, "Few", sched.Few(steps, most), fewOf(steps, most))
		}
	}
	wantLists(t, "Few with 0", sched.Few([]int{0, 2, 0, 1}, 0), lists("113", "311"))
	wantLists(t, "Few of 0", sched.Few([]int{0, 0}, 0), [][]int{nil})
}

func TestP7_10FewEdges(t *testing.T) {
	for _, steps := range notSteps() {
		for _, most := range []int{-1, 0, 24, math.MaxInt} {
			wantNoLists(t, "Few", sched.Few(steps, most))
		}
	}
	for _, most := range []int{-1, -2, math.MinInt} {
		wantNoLists(t, "Few", sched.Few([]int{2, 1}, most))
		wantNoLists(t, "Few", sched.Few([]int{0}, most))
	}
	for _, most := range []int{1, 2, 24, 25, math.MaxInt} {
		wantLists(t, "Few", sched.Few([]int{2, 1}, most), lists("001", "010", "100"))
	}
	// So few switches are had by few, but there are more than MaxAll mixes.
	for _, most := range []int{0, 1, 24} {
		wantNoLists(t, "Few", sched.Few([]int{12, 5, 2}, most))
		wantNoLists(t, "Few", sched.Few([]int{12, 12}, most))
		wantNoLists(t, "Few", sched.Few([]int{2, 2, 2, 2, 2, 2, 2, 2, 1, 1, 1, 1, 1, 1, 1, 1}, most))
	}
	// Without switches the handlers go one behind the other, in any order of them.
	if n := count(sched.Few([]int{13, 1, 1, 1, 1, 1}, 0)); n != 720 {
		t.Errorf("Few: %d", n)
	}
}

func TestP7_10FewLeftAndGoneOverAgain(t *testing.T) {
	for most := range 4 {
		wantIterator(t, "Few", sched.Few([]int{2, 1, 2}, most), sameLists)
	}
}
