package sched_test

import (
	"slices"
	"testing"

	"larder/api"
	"larder/sched"
)

// withRoom answers a list with spare room behind it, all of which is 3, and the whole.
func withRoom(l []int) ([]int, []int) {
	whole := append(slices.Clone(l), slices.Repeat([]int{3}, 8)...)
	return whole[:len(l)], whole
}

// spoil writes over a list and its spare room.
func spoil(l []int) {
	l = l[:cap(l)]
	for i := range l {
		l[i] = 77
	}
}

func TestR4WhatIsHandedInIsNotChanged(t *testing.T) {
	for _, l := range [][]int{of("1020"), of("3"), of("0120"), {}} {
		in, whole := withRoom(l)
		was := slices.Clone(whole)
		sched.Fair(in, 4, 2)
		sched.Rank(in)
		sched.Switches(in)
		sched.Least(in, []api.Pair{{A: 0, B: 1}, {A: 0, B: 2}})
		sched.Count(in)
		sched.Nth(in, 0)
		count(sched.Mixes(in))
		count(sched.Few(in, 1))
		if !slices.Equal(whole, was) {
			t.Errorf("%v became %v", was, whole)
		}
	}
	pairs := []api.Pair{{A: 2, B: 1}, {A: 1, B: 1}, {A: 9, B: 9}}
	was := slices.Clone(pairs)
	sched.Least(of("210"), pairs[:2])
	if !slices.Equal(pairs, was) {
		t.Errorf("%v became %v", was, pairs)
	}
}

// R7 beside R4: an iterator goes over what stood when it was made.
func TestR4StepsAreNotKept(t *testing.T) {
	steps := []int{2, 1}
	mixes, few := sched.Mixes(steps), sched.Few(steps, 0)
	steps[0], steps[1] = 0, 5
	wantLists(t, "Mixes", mixes, lists("001", "010", "100"))
	wantLists(t, "Few", few, lists("001", "100"))
	for range mixes {
		steps[0]++
	}
	wantLists(t, "Mixes again", mixes, lists("001", "010", "100"))
}

func TestR4ListsOfIteratorsAreNew(t *testing.T) {
	steps := []int{1, 2, 1}
	for name, seq := range map[string]func(func([]int) bool){"All": sched.All(3, 2), "Mixes": sched.Mixes(steps), "Few": sched.Few(steps, 1)} {
		want := slices.Collect(seq)
		for i := range want {
			want[i] = slices.Clone(want[i])
		}
		i := 0
		var kept [][]int
		for l := range seq {
			if !slices.Equal(l, want[i]) {
				t.Errorf("%s: %v, want %v", name, l, want[i])
			}
			spoil(l)
			kept = append(kept, l)
			i++
		}
		// What was written into one shows in no other.
		for _, l := range kept {
			for _, x := range l {
				if x != 77 {
					t.Errorf("%s: a list was written over: %v", name, l)
				}
			}
		}
		wantLists(t, name+" again", seq, want)
	}
}

func TestR4AnswersShareNoMemory(t *testing.T) {
	picks := of("1020")
	l, _ := sched.Least(picks, nil)
	spoil(l)
	if !slices.Equal(picks, of("1020")) {
		t.Errorf("Least answers its argument: %v", picks)
	}
	steps := []int{1, 1}
	l, _ = sched.Nth(steps, 1)
	spoil(l)
	wantNth(t, steps, 1, of("10"), api.OK)
}

func TestR4ListsOfABoardAreNew(t *testing.T) {
	b := started(t, 5)
	for _, h := range []int{3, 1, 2} {
		b.Block(h, 9)
	}
	spoil(b.Ready())
	wantReady(t, b, 0, 4)
	spoil(b.Waiting(9))
	wantWaiting(t, b, 9, 3, 1, 2)
	wantFirst(t, b, 9, 3, true)
	kept := b.Waiting(9)
	woken := b.Wake(9)
	spoil(woken)
	if !slices.Equal(kept, []int{1, 2}) {
		t.Errorf("Waiting was written over: %v", kept)
	}
	wantReady(t, b, 0, 1, 2, 3, 4)
	for _, h := range []int{4, 0} {
		b.Block(h, 9)
	}
	if woken[0] != 77 || woken[1] != 77 {
		t.Errorf("the board wrote into what it answered: %v", woken)
	}
	spoil(woken)
	wantWaiting(t, b, 9, 4, 0)
}

func TestR5BoardsAreEachAlone(t *testing.T) {
	a, b := started(t, 2), started(t, 2)
	a.Block(0, 1)
	b.Pick(0)
	b.Block(1, 1)
	wantWaiting(t, a, 1, 0)
	wantWaiting(t, b, 1, 1)
	wantLongest(t, a, 1, 0)
	wantLongest(t, b, 0, 0)
	wantWake(t, a, 1, 0)
	wantWaiting(t, b, 1, 1)
}

// Asking changes nothing.
func TestR5AskingCostsNothing(t *testing.T) {
	b := started(t, 3)
	b.Block(2, 5)
	b.Pick(0)
	for range 3 {
		wantReady(t, b, 0, 1)
		wantWaiting(t, b, 5, 2)
		wantLongest(t, b, 1, 1)
		wantState(t, b, 2, api.StateBlocked, 5)
	}
}
