package lock_test

import (
	"math/rand"
	"slices"
	"testing"

	"larder/api"
	"larder/lock"
)

func TestR4WhatIsHandedInIsNotChanged(t *testing.T) {
	r := rand.New(rand.NewSource(15))
	keys := append(someKeys(r, 20), "spare", "room")
	levels := append(someLevels(r, 6), 3, 3)
	moves := append(someMoves(r, 6, 100), api.Move{From: 3, To: 3, Amount: 3})
	keysWere, levelsWere, movesWere := slices.Clone(keys), slices.Clone(levels), slices.Clone(moves)
	lock.Set(keys[:20], 64)
	lock.Set(keys[:20], 0)
	lock.Race(levels[:6], moves[:100], 4)
	lock.Race(levels[:6], moves[:100], 0)
	if !slices.Equal(keys, keysWere) || !slices.Equal(levels, levelsWere) || !slices.Equal(moves, movesWere) {
		t.Error("something that was handed in is another")
	}
}

// spoil writes over a list and its spare room.
func spoil(l []int) {
	l = l[:cap(l)]
	for i := range l {
		l[i] = 77
	}
}

func TestR4AnswersAreNewMemory(t *testing.T) {
	keys := []string{"a", "b", "c", "d"}
	one, two := lock.Set(keys, 64), lock.Set(keys, 64)
	was := slices.Clone(two)
	spoil(one)
	if !slices.Equal(two, was) || !slices.Equal(lock.Set(keys, 64), was) {
		t.Error("Set's answer is not its own")
	}

	levels, moves := []int{5, 6, 7}, []api.Move{{From: 0, To: 1, Amount: 2}}
	for _, m := range [][]api.Move{moves, nil} {
		first, _, _ := lock.Race(levels, m, 2)
		second, _, _ := lock.Race(levels, m, 2)
		was := slices.Clone(second)
		spoil(first)
		if !slices.Equal(second, was) || !slices.Equal(levels, []int{5, 6, 7}) {
			t.Error("Race's answer is not its own")
		}
		wantRace(t, levels, m, 2)
	}
}

func TestR4WhatIsHandedInIsNotKept(t *testing.T) {
	levels, moves := []int{5, 6}, []api.Move{{From: 0, To: 1, Amount: 2}}
	got, _, _ := lock.Race(levels, moves, 2)
	levels[0], moves[0].Amount = 100, 50
	if !slices.Equal(got, []int{3, 8}) {
		t.Errorf("%v", got)
	}
}

// R5: a table hangs on its own calls alone.
func TestR5TablesSideBySide(t *testing.T) {
	x, y := newTable(t, 2), newTable(t, 2)
	wantTicket(t, x, 0, 0, api.OK)
	wantTicket(t, x, 0, 1, api.OK)
	wantErrno(t, "Odd", x.Odd(0, 0), api.OK)
	wantStripe(t, y, 0, -1, 0, 0)
	wantTicket(t, y, 0, 0, api.OK)
	wantStripe(t, x, 0, 0, 1, 2)
	wantStripe(t, y, 0, 0, 0, 1)
}
