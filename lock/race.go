package lock

import (
	"sync"
	"sync/atomic"

	"larder/api"
)

const (
	maxLevel  = 1073741824
	maxAmount = 1048576
)

// race is what the goroutines of one Race share.
type race struct {
	cells []cell
	sum   int         // of the levels at the beginning: no move changes it
	over  atomic.Bool // all moves are done
}

// cell is a stripe with its level.
type cell struct {
	lock  sync.Mutex
	seq   atomic.Uint64 // odd as long as the level is being changed
	level atomic.Int64
}

// Race does all moves by so many goroutines, beside one that reads the levels without a lock; it answers the levels in the end, and how many of the vectors that were read were wrong.
func Race(levels []int, moves []api.Move, workers int) ([]int, int, api.Errno) {
	if !areLevels(levels) || !areMoves(moves, len(levels)) || workers < 1 || workers > api.MaxWorkers {
		return nil, 0, api.ErrArg
	}
	r := newRace(levels)
	wrong := r.run(moves, workers)
	return r.levels(), wrong, api.OK
}

func areLevels(levels []int) bool {
	if !isCount(len(levels)) {
		return false
	}
	for _, level := range levels {
		if level < -maxLevel || level > maxLevel {
			return false
		}
	}
	return true
}

func areMoves(moves []api.Move, stripes int) bool {
	if len(moves) > api.MaxMoves {
		return false
	}
	for _, m := range moves {
		if min(m.From, m.To) < 0 || max(m.From, m.To) >= stripes || m.Amount < -maxAmount || m.Amount > maxAmount {
			return false
		}
	}
	return true
}

func newRace(levels []int) *race {
	r := &race{cells: make([]cell, len(levels))}
	for i, level := range levels {
		r.cells[i].level.Store(int64(level))
		r.sum += level
	}
	return r
}

// run answers how many wrong vectors were read while the moves were done.
func (r *race) run(moves []api.Move, workers int) int {
	var work, read sync.WaitGroup
	var wrong int
	read.Add(1)
	go func() {
		defer read.Done()
		wrong = r.read()
	}()
	next := make(chan api.Move)
	work.Add(workers)
	for range workers {
		go func() {
			defer work.Done()
			r.work(next)
		}()
	}
	for _, m := range moves {
		next <- m
	}
	close(next)
	work.Wait()
	r.over.Store(true)
	read.Wait()
	return wrong
}

func (r *race) work(next <-chan api.Move) {
	for m := range next {
		r.do(m)
	}
}

// do has both counters odd ahead of the first change and even behind the last one: a reader that saw one level changed and the other not would see an odd one.
func (r *race) do(m api.Move) {
	held := r.cellsOf(m)
	for _, c := range held {
		c.lock.Lock()
	}
	for _, c := range held {
		c.seq.Add(1)
	}
	r.cells[m.From].level.Add(int64(-m.Amount))
	r.cells[m.To].level.Add(int64(m.Amount))
	for _, c := range held {
		c.seq.Add(1)
	}
	for _, c := range held {
		c.lock.Unlock()
	}
}

// cellsOf has the lower stripe first: all who take two locks take them in one order, so that none waits in a ring.
func (r *race) cellsOf(m api.Move) []*cell {
	low, high := min(m.From, m.To), max(m.From, m.To)
	if low == high {
		return []*cell{&r.cells[low]}
	}
	return []*cell{&r.cells[low], &r.cells[high]}
}

// read looks once more when all moves are done, so that it has looked at all, however late it began.
func (r *race) read() int {
	seqs := make([]uint64, len(r.cells))
	wrong := 0
	for over := false; !over; {
		over = r.over.Load()
		if sum, good := r.look(seqs); good && sum != r.sum {
			wrong++
		}
	}
	return wrong
}

// look answers the sum of all levels, and whether they stood side by side at one moment: no counter was odd, and none has moved from ahead of the first level to behind the last one. It notes the counters in seqs.
func (r *race) look(seqs []uint64) (int, bool) {
	for i := range r.cells {
		seqs[i] = r.cells[i].seq.Load()
		if seqs[i]%2 == odd {
			return 0, false
		}
	}
	sum := 0
	for i := range r.cells {
		sum += int(r.cells[i].level.Load())
	}
	for i := range r.cells {
		if r.cells[i].seq.Load() != seqs[i] {
			return 0, false
		}
	}
	return sum, true
}

func (r *race) levels() []int {
	levels := make([]int, len(r.cells))
	for i := range r.cells {
		levels[i] = int(r.cells[i].level.Load())
	}
	return levels
}
