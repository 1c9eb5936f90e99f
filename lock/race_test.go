package lock_test

import (
	"math"
	"math/rand"
	"runtime"
	"slices"
	"testing"
	"time"

	"larder/api"
	"larder/lock"
)

const (
	mostLevel  = 1073741824
	mostAmount = 1048576
)

// slowRace does all moves one behind the other.
func slowRace(levels []int, moves []api.Move) []int {
	l := slices.Clone(levels)
	for _, m := range moves {
		l[m.From] -= m.Amount
		l[m.To] += m.Amount
	}
	return l
}

func wantRace(t *testing.T, levels []int, moves []api.Move, workers int) {
	t.Helper()
	got, wrong, e := lock.Race(levels, moves, workers)
	if want := slowRace(levels, moves); !slices.Equal(got, want) || wrong != 0 || e != api.OK {
		t.Fatalf("%d levels, %d moves, %d workers: %v, %d, %d; want %v", len(levels), len(moves), workers, got, wrong, e, want)
	}
}

func wantNoRace(t *testing.T, levels []int, moves []api.Move, workers int) {
	t.Helper()
	if got, wrong, e := lock.Race(levels, moves, workers); len(got) != 0 || wrong != 0 || e != api.ErrArg {
		t.Errorf("%d levels, %d moves, %d workers: %v, %d, %d", len(levels), len(moves), workers, got, wrong, e)
	}
}

func someMoves(r *rand.Rand, stripes, n int) []api.Move {
	moves := make([]api.Move, n)
	for i := range moves {
		moves[i] = api.Move{From: r.Intn(stripes), To: r.Intn(stripes), Amount: r.Intn(2*mostAmount+1) - mostAmount}
	}
	return moves
}

func someLevels(r *rand.Rand, n int) []int {
	levels := make([]int, n)
	for i := range levels {
		levels[i] = r.Intn(2*mostLevel+1) - mostLevel
	}
	return levels
}

func TestP8_5NoLevelsOrTooMany(t *testing.T) {
	wantNoRace(t, nil, nil, 1)
	wantNoRace(t, []int{}, []api.Move{}, 1)
	wantNoRace(t, make([]int, api.MaxStripes+1), nil, 1)
	wantRace(t, []int{5}, nil, 1)
	wantRace(t, make([]int, api.MaxStripes), []api.Move{{From: 0, To: api.MaxStripes - 1, Amount: 3}}, 2)
}

func TestP8_5ALevelsBounds(t *testing.T) {
	move := []api.Move{{From: 0, To: 1, Amount: 1}}
	for _, level := range []int{mostLevel, -mostLevel} {
		wantRace(t, []int{level, 0}, move, 2)
		wantRace(t, []int{0, level}, move, 2)
	}
	for _, level := range []int{mostLevel + 1, -mostLevel - 1, math.MaxInt, math.MinInt} {
		wantNoRace(t, []int{level, 0}, move, 2)
		wantNoRace(t, []int{0, level}, move, 2)
		wantNoRace(t, []int{level, 0}, nil, 2)
	}
}

// A level may well go past the bounds in the end: these are those of the beginning.
func TestP8_5PastTheBoundsInTheEnd(t *testing.T) {
	moves := slices.Repeat([]api.Move{{From: 0, To: 1, Amount: mostAmount}}, api.MaxMoves)
	wantRace(t, []int{-mostLevel, mostLevel}, moves, 4)
	wantRace(t, []int{mostLevel, -mostLevel}, moves, 4)
}

func TestP8_5NoMovesOrTooMany(t *testing.T) {
	r := rand.New(rand.NewSource(7))
	levels := someLevels(r, 8)
	wantRace(t, levels, nil, 16)
	wantRace(t, levels, []api.Move{}, 1)
	moves := someMoves(r, 8, api.MaxMoves+1)
	wantRace(t, levels, moves[:api.MaxMoves], 16)
	wantNoRace(t, levels, moves, 16)
}

func TestP8_5StripesOfAMove(t *testing.T) {
	levels := []int{10, 20, 30}
	for _, m := range []api.Move{{From: 0, To: 2, Amount: 1}, {From: 2, To: 0, Amount: 1}, {From: 2, To: 2, Amount: 1}, {From: 0, To: 0, Amount: 1}} {
		wantRace(t, levels, []api.Move{m}, 1)
	}
	for _, s := range []int{-1, 3, 4, math.MinInt, math.MaxInt} {
		for _, m := range []api.Move{{From: s, To: 1}, {From: 1, To: s}, {From: s, To: s}} {
			wantNoRace(t, levels, []api.Move{m}, 1)
			wantNoRace(t, levels, []api.Move{{From: 0, To: 1, Amount: 1}, m}, 1)
			wantNoRace(t, levels, []api.Move{m, {From: 0, To: 1, Amount: 1}}, 1)
		}
	}
}

func TestP8_5AMovesAmount(t *testing.T) {
	levels := []int{10, 20}
	for _, amount := range []int{0, 1, -1, mostAmount, -mostAmount} {
		wantRace(t, levels, []api.Move{{From: 0, To: 1, Amount: amount}}, 2)
		wantRace(t, levels, []api.Move{{From: 1, To: 1, Amount: amount}}, 2)
	}
	for _, amount := range []int{mostAmount + 1, -mostAmount - 1, math.MaxInt, math.MinInt} {
		wantNoRace(t, levels, []api.Move{{From: 0, To: 1, Amount: amount}}, 2)
		wantNoRace(t, levels, []api.Move{{From: 1, To: 1, Amount: amount}}, 2)
		wantNoRace(t, levels, []api.Move{{From: 0, To: 1}, {From: 0, To: 1, Amount: amount}}, 2)
	}
}

func TestP8_5Workers(t *testing.T) {
	r := rand.New(rand.NewSource(8))
	levels, moves := someLevels(r, 5), someMoves(r, 5, 50)
	for workers := 1; workers <= api.MaxWorkers; workers++ {
		wantRace(t, levels, moves, workers)
		wantRace(t, levels, nil, workers)
	}
	for _, workers := range []int{0, -1, api.MaxWorkers + 1, math.MinInt, math.MaxInt} {
		wantNoRace(t, levels, moves, workers)
		wantNoRace(t, levels, nil, workers)
	}
}

// ended: a goroutine that was waited for may take a moment more to be gone, so it is asked again for a while.
func ended(before int) bool {
	for range 5000 {
		if runtime.NumGoroutine() <= before {
			return true
		}
		time.Sleep(time.Millisecond)
	}
	return false
}

func TestP8_5AllGoroutinesHaveEnded(t *testing.T) {
	r := rand.New(rand.NewSource(9))
	before := runtime.NumGoroutine()
	for _, n := range []int{0, 1, 100, api.MaxMoves} {
		for _, workers := range []int{1, 5, api.MaxWorkers} {
			wantRace(t, someLevels(r, 6), someMoves(r, 6, n), workers)
			if !ended(before) {
				t.Fatalf("%d moves, %d workers: %d goroutines, %d were there", n, workers, runtime.NumGoroutine(), before)
			}
		}
	}
	wantNoRace(t, nil, nil, 1)
	wantNoRace(t, []int{1}, nil, 0)
	if !ended(before) {
		t.Errorf("%d goroutines, %d were there", runtime.NumGoroutine(), before)
	}
}

// fullOrShort: the race detector makes all of this slow, so its runs are short ones.
func fullOrShort(full, short int) int {
	if testing.Short() {
		return short
	}
	return full
}

func TestP8_6ManyMoves(t *testing.T) {
	r := rand.New(rand.NewSource(10))
	for i := range fullOrShort(200, 64) {
		stripes := 1 + r.Intn(api.MaxStripes)
		wantRace(t, someLevels(r, stripes), someMoves(r, stripes, r.Intn(400)), 1+i%api.MaxWorkers)
	}
}

// Few stripes and many moves: there workers meet, and readers meet them.
func TestP8_6FewStripes(t *testing.T) {
	r := rand.New(rand.NewSource(11))
	for stripes := 1; stripes <= 4; stripes++ {
		for workers := 1; workers <= api.MaxWorkers; workers += fullOrShort(1, 5) {
			wantRace(t, someLevels(r, stripes), someMoves(r, stripes, api.MaxMoves), workers)
		}
	}
}

// Moves there and back again between the same two: whoever took the locks in the order of From and To would wait in a ring.
func TestP8_6ThereAndBack(t *testing.T) {
	var moves []api.Move
	for i := range api.MaxMoves {
		moves = append(moves, api.Move{From: i % 2, To: 1 - i%2, Amount: i - 2000})
	}
	for range fullOrShort(50, 10) {
		wantRace(t, []int{1000, -1000}, moves, api.MaxWorkers)
	}
}

func TestP8_6AllStripes(t *testing.T) {
	r := rand.New(rand.NewSource(12))
	levels := someLevels(r, api.MaxStripes)
	moves := someMoves(r, api.MaxStripes, api.MaxMoves)
	for workers := 1; workers <= api.MaxWorkers; workers += fullOrShort(1, 5) {
		wantRace(t, levels, moves, workers)
	}
}

// In what order the moves stand has no part.
func TestP8_6AnyOrder(t *testing.T) {
	r := rand.New(rand.NewSource(13))
	levels, moves := someLevels(r, 7), someMoves(r, 7, 300)
	want := slowRace(levels, moves)
	for range 20 {
		r.Shuffle(len(moves), func(i, j int) { moves[i], moves[j] = moves[j], moves[i] })
		if got, wrong, e := lock.Race(levels, moves, 8); !slices.Equal(got, want) || wrong != 0 || e != api.OK {
			t.Fatalf("%v, %d, %d; want %v", got, wrong, e, want)
		}
	}
}

// However few processors there are, it ends and comes to the same.
func TestP8_6OneProcessor(t *testing.T) {
	defer runtime.GOMAXPROCS(runtime.GOMAXPROCS(1))
	r := rand.New(rand.NewSource(14))
	for _, workers := range []int{1, 2, api.MaxWorkers} {
		wantRace(t, someLevels(r, 3), someMoves(r, 3, api.MaxMoves), workers)
	}
}

// Several races side by side have nothing to do with one another.
func TestP8_6SideBySide(t *testing.T) {
	done := make(chan bool)
	for seed := range 4 {
		go func() {
			defer func() { done <- true }()
			r := rand.New(rand.NewSource(int64(seed)))
			for range 20 {
				levels, moves := someLevels(r, 4), someMoves(r, 4, 500)
				got, wrong, e := lock.Race(levels, moves, 4)
				if !slices.Equal(got, slowRace(levels, moves)) || wrong != 0 || e != api.OK {
					t.Errorf("%v, %d, %d", got, wrong, e)
				}
			}
		}()
	}
	for range 4 {
		<-done
	}
}
