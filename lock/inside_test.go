package lock

import (
	"slices"
	"sync"
	"testing"
	"time"

	"larder/api"
)

// These look at a race from inside: what its reader takes for good cannot be told from the answer alone.

func looked(t *testing.T, r *race, sum int, good bool) {
	t.Helper()
	if s, g := r.look(make([]uint64, len(r.cells))); s != sum || g != good {
		t.Errorf("look: %d, %t; want %d, %t", s, g, sum, good)
	}
}

func TestP8_5WhatAReaderTakesForGood(t *testing.T) {
	r := newRace([]int{4, 5, 6})
	looked(t, r, 15, true)
	for i := range r.cells {
		r.cells[i].seq.Add(1)
		looked(t, r, 0, false)
		r.cells[i].seq.Add(1)
		looked(t, r, 15, true)
	}
	r.cells[1].level.Add(-1)
	looked(t, r, 14, true)
}

func TestP8_5AReaderCountsWrongVectors(t *testing.T) {
	r := newRace([]int{4, 5, 6})
	r.over.Store(true)
	if got := r.read(); got != 0 {
		t.Errorf("of a right one: %d", got)
	}
	r.cells[2].level.Add(1)
	if got := r.read(); got != 1 {
		t.Errorf("of a wrong one: %d", got)
	}
	r.cells[0].seq.Add(1)
	if got := r.read(); got != 0 {
		t.Errorf("of a wrong one that is not taken for good: %d", got)
	}
}

// A reader goes on as long as moves are done: it counts a wrong vector again and again. (How soon it is let run nobody knows, so it is given more and more time.)
func TestP8_5AReaderReadsOverAndOver(t *testing.T) {
	got := 0
	for wait := time.Millisecond; got < 2 && wait < 10*time.Second; wait *= 4 {
		r := newRace([]int{4, 5})
		r.cells[0].level.Add(1)
		wrong := make(chan int)
		go func() { wrong <- r.read() }()
		time.Sleep(wait)
		r.over.Store(true)
		got = <-wrong
	}
	if got < 2 {
		t.Errorf("it read %d times", got)
	}
}

func TestP8_5WhatTheReaderCountsIsToldInTheEnd(t *testing.T) {
	r := newRace([]int{4, 5})
	r.cells[0].level.Add(1)
	if got := r.run([]api.Move{{From: 0, To: 1, Amount: 2}}, 2); got < 1 {
		t.Errorf("%d wrong vectors", got)
	}
}

// A reader between the change of one level and that of the other sees an odd counter, whoever moves.
func TestP8_5AReaderBesideOneMover(t *testing.T) {
	r := newRace([]int{0, 0, 0})
	var moving sync.WaitGroup
	moving.Go(func() {
		for i := range 200000 {
			r.do(api.Move{From: i % 3, To: (i + 1) % 3, Amount: 1 + i%5})
		}
		r.over.Store(true)
	})
	wrong := r.read()
	moving.Wait()
	if wrong != 0 {
		t.Errorf("%d wrong vectors", wrong)
	}
}

func TestP8_5LocksInRisingOrder(t *testing.T) {
	r := newRace(make([]int, 4))
	for from := range 4 {
		for to := range 4 {
			want := []*cell{&r.cells[min(from, to)], &r.cells[max(from, to)]}
			if from == to {
				want = want[:1]
			}
			if got := r.cellsOf(api.Move{From: from, To: to}); !slices.Equal(got, want) {
				t.Errorf("from %d to %d: %d locks", from, to, len(got))
			}
		}
	}
}

// A move that waits for one of its locks has changed nothing yet.
func TestP8_5AMoveTakesBothLocks(t *testing.T) {
	for held := range 2 {
		r := newRace([]int{7, 8})
		r.cells[held].lock.Lock()
		var moving sync.WaitGroup
		moving.Go(func() { r.do(api.Move{From: 1, To: 0, Amount: 3}) })
		time.Sleep(5 * time.Millisecond)
		looked(t, r, 15, true)
		if got := r.levels(); !slices.Equal(got, []int{7, 8}) {
			t.Errorf("with lock %d held: %v", held, got)
		}
		r.cells[held].lock.Unlock()
		moving.Wait()
		if got := r.levels(); !slices.Equal(got, []int{10, 5}) || r.cells[0].seq.Load() != 2 || r.cells[1].seq.Load() != 2 {
			t.Errorf("behind it: %v", got)
		}
	}
}
