package wheel_test

import (
	"math/rand"
	"slices"
	"strconv"
	"testing"

	"larder/api"
)

func TestP11_3AdvanceToWhatIsNoTime(t *testing.T) {
	for _, now := range []int{0, 5, 64, api.MaxTick - 1, api.MaxTick} {
		x := bothAt(t, now)
		for i, at := range []int{now + 1, now + 64, now + 4096, api.MaxTick} {
			if at > now && at <= api.MaxTick {
				x.add(t, strconv.Itoa(i), at)
			}
		}
		for _, to := range []int{least, -api.MaxTick, -1, api.MaxTick + 1, 2 * api.MaxTick, greatest} {
			wantRefused(t, x.w, to, api.ErrArg)
		}
		for _, to := range []int{0, 1, 63, now / 2, now - 64, now - 1} {
			if to >= 0 && to < now {
				wantRefused(t, x.w, to, api.ErrPast)
			}
		}
		x.like(t)
	}
}

func TestP11_3AdvanceToThePresentTime(t *testing.T) {
	for _, now := range []int{0, 1, 63, 64, 4095, 4096, 1<<36 - 1, 1 << 36, api.MaxTick - 1} {
		x := bothAt(t, now)
		x.add(t, "next", now+1)
		x.add(t, "last", api.MaxTick)
		for range 3 {
			wantTold(t, x.w, now)
			x.like(t)
		}
	}
	wantTold(t, made(t, 0), 0)
	wantTold(t, made(t, api.MaxTick), api.MaxTick)
}

func TestP11_3AnEmptyWheelGoesOn(t *testing.T) {
	w := made(t, 0)
	for _, to := range []int{0, 1, 63, 64, 65, 4096, 1 << 20, 1 << 36, api.MaxTick - 1, api.MaxTick} {
		wantTold(t, w, to)
		wantLike(t, w, opened(to))
	}
}

// One by one: each name is told at its moment, and at none beside it.
func TestP11_3AdvanceByOne(t *testing.T) {
	for _, now := range []int{0, 60, 4090, 1<<18 - 70, 1<<36 - 70, api.MaxTick - 140} {
		x := bothAt(t, now)
		for i := 1; i <= 140; i++ {
			x.add(t, strconv.Itoa(i), now+i)
		}
		for i := 1; i <= 140; i++ {
			if l := x.advance(t, now+i); !slices.Equal(l, []string{strconv.Itoa(i)}) {
				t.Fatalf("at %d: %q", now+i, l)
			}
			x.like(t)
		}
	}
}

// A slot of each ring, by its last moment and by the first of the next one, with names at its edges.
func TestP11_3TheEndsOfSlots(t *testing.T) {
	for ring := range 7 {
		size := 1 << (6 * ring)
		for _, now := range []int{0, size / 2, size - 1, 5*size - 1, 5 * size, 7*size + size/3, 15*size - 1} {
			for _, stops := range [][]int{{1}, {2}, {1, 2}, {0, 1, 2}, {-1}, {-1, 0}, {3}, {64}} {
				x := bothAt(t, now)
				begin := (now/size + 1) * size
				for _, at := range []int{begin - 1, begin, begin + 1, begin + size - 1, begin + size, begin + 2*size - 1, begin + 64*size, now + 1} {
					x.add(t, strconv.Itoa(at), at)
				}
				for _, s := range stops {
					to := begin + s*size - 1
					x.advance(t, to)
					x.like(t)
					x.advance(t, to+1)
					x.like(t)
				}
			}
		}
	}
}

// Over all rings at once, from moments whose lower digits are all 63, all 0 or neither.
func TestP11_3OverSeveralRingsAtOnce(t *testing.T) {
	for _, now := range []int{0, 1, 63, 64*64 - 1, 1<<24 - 1, 1<<36 - 1, 1 << 36, 1<<36 + 1<<30 - 1, 123456789} {
		var times []int
		for ring := range 7 {
			size := 1 << (6 * ring)
			for _, at := range []int{now + size - 1, now + size, now + size + 1, (now/size+1)*size - 1, (now/size + 1) * size, (now/size+1)*size + 1} {
				if at > now && !slices.Contains(times, at) {
					times = append(times, at)
				}
			}
		}
		times = append(times, api.MaxTick)
		for _, to := range times {
			for _, beside := range []int{-1, 0, 1} {
				x := bothAt(t, now)
				for _, at := range times {
					x.add(t, strconv.Itoa(at), at)
				}
				x.like(t)
				x.advance(t, to+beside)
				x.like(t)
			}
		}
	}
}

func TestP11_3ToTheEndOfTime(t *testing.T) {
	r := rand.New(rand.NewSource(3))
	for range 50 {
		x := bothAt(t, moment(r))
		n := 0
		for i := range 100 {
			if x.add(t, strconv.Itoa(i), timeFrom(r, x.b.now)) == api.OK {
				n++
			}
		}
		x.add(t, "end", api.MaxTick)
		x.add(t, "a", api.MaxTick)
		if l := x.advance(t, api.MaxTick); len(l) != n+2 || l[len(l)-1] != "end" {
			t.Errorf("%d of %d names: %q", len(l), n+2, l)
		}
		x.like(t)
		wantTold(t, x.w, api.MaxTick)
		want(t, "Add behind the end", x.w.Add("a", api.MaxTick), api.ErrPast)
	}
}

// Names are told by time, those of one time by name, whatever the order is in which they came, and whichever slots they hang in.
func TestP11_3TheOrderOfWhatIsTold(t *testing.T) {
	rising := []entry{
		{"z", 11}, {"\x00", 12}, {"A", 12}, {"a", 12}, {"a\x00", 12}, {"aa", 12}, {"ab", 12}, {"b", 12}, {"\x80", 12}, {"\xff", 12},
		{"y", 63}, {"x", 64}, {"xx", 64}, {"w", 65}, {"v", 4095}, {"u", 4096}, {"uu", 4096}, {"t", 1 << 20}, {"s", 1<<20 + 1}, {"r", 1 << 36}, {"q", api.MaxTick},
	}
	r := rand.New(rand.NewSource(4))
	for range 200 {
		w := made(t, 10)
		for _, i := range r.Perm(len(rising)) {
			add(t, w, rising[i])
		}
		if got := all(w); !slices.Equal(got, rising) {
			t.Fatalf("Each: %v", got)
		}
		to := rising[r.Intn(len(rising))].at
		var names []string
		for _, x := range rising {
			if x.at <= to {
				names = append(names, x.id)
			}
		}
		wantTold(t, w, to, names...)
		if got := all(w); !slices.Equal(got, rising[len(names):]) {
			t.Fatalf("Each behind it: %v", got)
		}
	}
}

// What was changed is told at its new time alone, what was removed never.
func TestP11_3WhatWasChangedOrRemoved(t *testing.T) {
	w := filled(t, 0, entry{"near", 5}, entry{"far", 5000}, entry{"same", 70}, entry{"gone", 70}, entry{"stays", 70})
	want(t, "Change", w.Change("near", 5001), api.OK)
	want(t, "Change", w.Change("far", 6), api.OK)
	want(t, "Change", w.Change("same", 70), api.OK)
	want(t, "Remove", w.Remove("gone"), api.OK)
	wantTold(t, w, 5)
	wantTold(t, w, 6, "far")
	wantTold(t, w, 70, "same", "stays")
	wantTold(t, w, 5000)
	wantTold(t, w, 5001, "near")
	want(t, "Len", w.Len(), 0)
}
