package sched_test

import (
	"iter"
	"math"
	"math/rand"
	"slices"
	"strconv"
	"strings"
	"testing"

	"larder/api"
	"larder/sched"
)

func newBoard(t *testing.T, handlers int) *sched.Board {
	t.Helper()
	b, e := sched.New(handlers)
	if b == nil || e != api.OK {
		t.Fatalf("New(%d): %v, %d", handlers, b, e)
	}
	return b
}

// started answers a board all of whose handlers are ready.
func started(t *testing.T, handlers int) *sched.Board {
	t.Helper()
	b := newBoard(t, handlers)
	for h := range handlers {
		wantErrno(t, "Start", b.Start(h), api.OK)
	}
	return b
}

func wantErrno(t *testing.T, name string, got, want api.Errno) {
	t.Helper()
	if got != want {
		t.Errorf("%s: %d, want %d", name, got, want)
	}
}

func wantState(t *testing.T, b *sched.Board, h, state, on int) {
	t.Helper()
	if s, o := b.State(h); s != state || o != on {
		t.Errorf("State(%d): %d, %d; want %d, %d", h, s, o, state, on)
	}
}

func wantReady(t *testing.T, b *sched.Board, want ...int) {
	t.Helper()
	if l := b.Ready(); !slices.Equal(l, want) {
		t.Errorf("Ready: %v, want %v", l, want)
	}
}

func wantWaiting(t *testing.T, b *sched.Board, on int, want ...int) {
	t.Helper()
	if l := b.Waiting(on); !slices.Equal(l, want) {
		t.Errorf("Waiting(%d): %v, want %v", on, l, want)
	}
}

func wantWake(t *testing.T, b *sched.Board, on int, want ...int) {
	t.Helper()
	if l := b.Wake(on); !slices.Equal(l, want) {
		t.Errorf("Wake(%d): %v, want %v", on, l, want)
	}
}

func wantFirst(t *testing.T, b *sched.Board, on, want int, wantOk bool) {
	t.Helper()
	if h, ok := b.First(on); h != want || ok != wantOk {
		t.Errorf("First(%d): %d, %v; want %d, %v", on, h, ok, want, wantOk)
	}
}

func wantPick(t *testing.T, b *sched.Board, k, want int, wantOk bool) {
	t.Helper()
	if h, ok := b.Pick(k); h != want || ok != wantOk {
		t.Errorf("Pick(%d): %d, %v; want %d, %v", k, h, ok, want, wantOk)
	}
}

func wantLongest(t *testing.T, b *sched.Board, h, count int) {
	t.Helper()
	if g, n := b.Longest(); g != h || n != count {
		t.Errorf("Longest: %d, %d; want %d, %d", g, n, h, count)
	}
}

func wantFair(t *testing.T, picks []int, handlers, k int, want bool, wantAt int) {
	t.Helper()
	if ok, at := sched.Fair(picks, handlers, k); ok != want || at != wantAt {
		t.Errorf("Fair(%d picks, %d, %d): %v, %d; want %v, %d", len(picks), handlers, k, ok, at, want, wantAt)
	}
}

func wantCount(t *testing.T, steps []int, want int, wantE api.Errno) {
	t.Helper()
	if n, e := sched.Count(steps); n != want || e != wantE {
		t.Errorf("Count(%v): %d, %d; want %d, %d", steps, n, e, want, wantE)
	}
}

func wantNth(t *testing.T, steps []int, n int, want []int, wantE api.Errno) {
	t.Helper()
	if l, e := sched.Nth(steps, n); !slices.Equal(l, want) || e != wantE {
		t.Errorf("Nth(%v, %d): %v, %d; want %v, %d", steps, n, l, e, want, wantE)
	}
}

func wantRank(t *testing.T, picks []int, want int, wantE api.Errno) {
	t.Helper()
	if n, e := sched.Rank(picks); n != want || e != wantE {
		t.Errorf("Rank(%v): %d, %d; want %d, %d", picks, n, e, want, wantE)
	}
}

func wantSwitches(t *testing.T, picks []int, want int, wantE api.Errno) {
	t.Helper()
	if n, e := sched.Switches(picks); n != want || e != wantE {
		t.Errorf("Switches(%d picks): %d, %d; want %d, %d", len(picks), n, e, want, wantE)
	}
}

func wantLeast(t *testing.T, picks []int, apart []api.Pair, want []int, wantE api.Errno) {
	t.Helper()
	if l, e := sched.Least(picks, apart); !slices.Equal(l, want) || e != wantE {
		t.Errorf("Least(%v, %v): %v, %d; want %v, %d", picks, apart, l, e, want, wantE)
	}
}

func wantLists(t *testing.T, name string, seq iter.Seq[[]int], want [][]int) {
	t.Helper()
	if got := slices.Collect(seq); !sameLists(got, want) {
		t.Errorf("%s: %d lists %v, want %d %v", name, len(got), first(got), len(want), first(want))
	}
}

func sameLists(a, b [][]int) bool {
	return slices.EqualFunc(a, b, func(x, y []int) bool { return slices.Equal(x, y) })
}

func first[T any](l []T) []T { return l[:min(len(l), 30)] }

func wantNoPicks(t *testing.T, name string, seq iter.Seq[int]) {
	t.Helper()
	for h := range seq {
		t.Errorf("%s: goes over %d, want nothing", name, h)
		return
	}
}

func wantNoLists(t *testing.T, name string, seq iter.Seq[[]int]) {
	t.Helper()
	for l := range seq {
		t.Errorf("%s: goes over %v, want nothing", name, l)
		return
	}
}

// wantIterator holds an iterator to be left at any time, gone over again and nested, over few elements.
func wantIterator[T any](t *testing.T, name string, seq iter.Seq[T], same func(a, b []T) bool) {
	t.Helper()
	all := slices.Collect(seq)
	for stop := 1; stop <= len(all); stop++ {
		var got []T
		for x := range seq {
			got = append(got, x)
			if len(got) == stop {
				break
			}
		}
		if !same(got, all[:stop]) {
			t.Errorf("%s: left behind %d: %v, want %v", name, stop, got, all[:stop])
		}
	}
	var outer []T
	for x := range seq {
		outer = append(outer, x)
		if inner := slices.Collect(seq); !same(inner, all) {
			t.Errorf("%s: nested: %v, want %v", name, inner, all)
		}
	}
	if !same(outer, all) {
		t.Errorf("%s: around others: %v, want %v", name, outer, all)
	}
}

// count goes over all of an iterator and keeps nothing.
func count[T any](seq iter.Seq[T]) int {
	n := 0
	for range seq {
		n++
	}
	return n
}

// upTo answers the first n numbers of an iterator.
func upTo(seq iter.Seq[int], n int) []int {
	l := make([]int, 0, n)
	for h := range seq {
		l = append(l, h)
		if len(l) == n {
			break
		}
	}
	return l
}

// of answers the picks that a text has as digits.
func of(text string) []int {
	var l []int
	for _, c := range strings.Split(text, "") {
		h, _ := strconv.Atoi(c)
		l = append(l, h)
	}
	return l
}

func lists(texts ...string) [][]int {
	var all [][]int
	for _, s := range texts {
		all = append(all, of(s))
	}
	return all
}

// extremes are numbers that are wrong nearly everywhere.
func extremes() []int {
	return []int{-1, -2, math.MinInt, math.MaxInt, math.MinInt + 1, math.MaxInt - 1, 1 << 32, -1 << 32}
}

func randomPicks(r *rand.Rand, handlers, n int) []int {
	l := make([]int, n)
	for i := range l {
		l[i] = r.Intn(handlers)
	}
	return l
}

// randomSteps answers steps of which no more than so many are together.
func randomSteps(r *rand.Rand, handlers, most int) []int {
	l := make([]int, handlers)
	for range r.Intn(most + 1) {
		l[r.Intn(handlers)]++
	}
	return l
}

func randomPairs(r *rand.Rand, handlers, n int) []api.Pair {
	l := make([]api.Pair, n)
	for i := range l {
		l[i] = api.Pair{A: r.Intn(handlers), B: r.Intn(handlers)}
	}
	return l
}

func allPairs() []api.Pair {
	var l []api.Pair
	for a := range api.MaxHandlers {
		for b := range api.MaxHandlers {
			l = append(l, api.Pair{A: a, B: b})
		}
	}
	return l
}
