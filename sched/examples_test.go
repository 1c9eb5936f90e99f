package sched_test

import (
	"testing"

	"larder/api"
	"larder/sched"
)

func TestExample1Board(t *testing.T) {
	for _, n := range []int{0, 17} {
		if b, e := sched.New(n); b != nil || e != api.ErrArg {
			t.Errorf("New(%d): %v, %d", n, b, e)
		}
	}
	b := newBoard(t, 2)
	wantErrno(t, "Start(0)", b.Start(0), api.OK)
	wantErrno(t, "Start(0)", b.Start(0), api.ErrBusy)
	wantErrno(t, "Start(2)", b.Start(2), api.ErrHandler)
	wantErrno(t, "Block(1, 5)", b.Block(1, 5), api.ErrIdle)
	wantErrno(t, "Block(0, 5)", b.Block(0, 5), api.OK)
	wantErrno(t, "Finish(0)", b.Finish(0), api.ErrBlocked)
	wantState(t, b, 0, 2, 5)
	wantWake(t, b, 5, 0)
	wantReady(t, b, 0)
}

func TestExample2Longest(t *testing.T) {
	b := started(t, 3)
	wantPick(t, b, 7, 1, true)
	wantPick(t, b, -1, 2, true)
	wantLongest(t, b, 0, 2)
	b.Block(0, 1)
	wantLongest(t, b, 1, 1)
	b.Wake(1)
	b.Finish(1)
	wantLongest(t, b, 0, 0)
}

func TestExample3Fair(t *testing.T) {
	wantFair(t, of("01001"), 2, 2, false, 2)
	wantFair(t, of("01"), 2, 3, true, 0)
	wantFair(t, of("2"), 2, 1, false, -1)
}

func TestExample4All(t *testing.T) {
	wantLists(t, "All(2, 2)", sched.All(2, 2), lists("00", "01", "10", "11"))
	wantLists(t, "All(3, 0)", sched.All(3, 0), [][]int{{}})
	wantNoLists(t, "All(16, 6)", sched.All(16, 6))
}

func TestExample5Mixes(t *testing.T) {
	wantLists(t, "Mixes", sched.Mixes([]int{2, 1}), lists("001", "010", "100"))
	wantCount(t, []int{2, 1}, 3, api.OK)
	wantNth(t, []int{2, 1}, 1, of("010"), api.OK)
	wantRank(t, of("010"), 1, api.OK)
	wantCount(t, []int{0}, 1, api.OK)
	wantCount(t, []int{}, 0, api.ErrArg)
	wantCount(t, []int{-1}, 0, api.ErrArg)
	wantNth(t, []int{2, 1}, 3, nil, api.ErrArg)
}

func TestExample6Switches(t *testing.T) {
	wantSwitches(t, of("010"), 1, api.OK)
	wantSwitches(t, of("001"), 0, api.OK)
	wantLists(t, "Few", sched.Few([]int{2, 1}, 0), lists("001", "100"))
}

func TestExample7Least(t *testing.T) {
	wantLeast(t, of("102"), []api.Pair{{A: 0, B: 1}}, of("012"), api.OK)
	wantLeast(t, of("210"), []api.Pair{{A: 0, B: 1}, {A: 0, B: 2}}, of("021"), api.OK)
	wantLeast(t, of("10"), nil, of("10"), api.OK)
}
