package wheel_test

import (
	"iter"
	"math/rand"
	"slices"
	"strconv"
	"testing"

	"larder/api"
)

func wantNext(t *testing.T, name string, next func() (int, bool), at int, there bool) {
	t.Helper()
	got, ok := next()
	if got != at || ok != there {
		t.Errorf("%s: Next: %d, %v, want %d, %v", name, got, ok, at, there)
	}
}

func TestP11_4NextNowLen(t *testing.T) {
	w := made(t, 7)
	wantNext(t, "empty", w.Next, 0, false)
	want(t, "Now", w.Now(), 7)
	want(t, "Len", w.Len(), 0)
	add(t, w, entry{"last", api.MaxTick})
	wantNext(t, "one", w.Next, api.MaxTick, true)
	add(t, w, entry{"b", 5000}, entry{"c", 4999}, entry{"d", 5001})
	wantNext(t, "several of one slot", w.Next, 4999, true)
	want(t, "Len", w.Len(), 4)
	want(t, "Change", w.Change("c", 5002), api.OK)
	wantNext(t, "the first was changed", w.Next, 5000, true)
	want(t, "Remove", w.Remove("b"), api.OK)
	wantNext(t, "the first was removed", w.Next, 5001, true)
	want(t, "Len", w.Len(), 3)
	wantTold(t, w, 5001, "d")
	wantNext(t, "the first has lapsed", w.Next, 5002, true)
	wantTold(t, w, api.MaxTick, "c", "last")
	wantNext(t, "all have lapsed", w.Next, 0, false)
	want(t, "Len", w.Len(), 0)
	want(t, "Now", w.Now(), api.MaxTick)
}

// Next, where the least time lies in each ring, with others behind it in its slot, in its ring and in the rings above.
func TestP11_4NextFromEachRing(t *testing.T) {
	for _, now := range []int{0, 1, 62, 63, 64*63 + 63, 1<<30 - 1, 1<<36 - 1, 1<<36 + 5} {
		for ring := range 7 {
			size := 1 << (6 * ring)
			first := (now/size + 1) * size
			x := bothAt(t, now)
			for i, at := range []int{first + 64*size, first + 2*size, first + size - 1, first + size, first + 1, first} {
				x.add(t, strconv.Itoa(i), at)
				x.like(t)
			}
			wantNext(t, "of ring "+strconv.Itoa(ring), x.w.Next, first, true)
		}
	}
}

// taken answers the first n that an iterator goes over, and leaves it then.
func taken(seq iter.Seq2[string, int], n int) []entry {
	l := []entry{}
	if n == 0 {
		return l
	}
	for id, at := range seq {
		l = append(l, entry{id, at})
		if len(l) == n {
			break
		}
	}
	return l
}

func TestP11_4EachIsLeftAndGoneOverAgain(t *testing.T) {
	l := []entry{{"b", 5}, {"c", 5}, {"a", 6}, {"x", 64}, {"w", 70}, {"v", 5000}, {"u", 1 << 38}}
	w := filled(t, 0, l...)
	seq := w.Each()
	for range 3 {
		for n := range len(l) + 1 {
			if got := taken(seq, n); !slices.Equal(got, l[:n]) {
				t.Errorf("the first %d: %v", n, got)
			}
		}
		if got := taken(seq, 100); !slices.Equal(got, l) {
			t.Errorf("all: %v", got)
		}
	}
	// Nested: neither disturbs the other.
	n := 0
	for id, at := range seq {
		want(t, "outer", entry{id, at}, l[n])
		if got := taken(seq, 100); !slices.Equal(got, l) {
			t.Errorf("inner: %v", got)
		}
		if got := taken(w.Each(), 2); !slices.Equal(got, l[:2]) {
			t.Errorf("another inner: %v", got)
		}
		n++
	}
	want(t, "outer's length", n, len(l))
	wantLike(t, w, bookOf(0, l))
}

func bookOf(now int, l []entry) *book {
	b := opened(now)
	for _, x := range l {
		b.times[x.id] = x.at
	}
	return b
}

func TestP11_4EachOfAnEmptyWheel(t *testing.T) {
	w := made(t, 3)
	early := w.Each()
	add(t, w, entry{"a", 5})
	if got := taken(early, 9); len(got) != 0 {
		t.Errorf("Each of the empty wheel tells what came behind it: %v", got)
	}
	late := w.Each()
	wantTold(t, w, 5, "a")
	if got := taken(late, 9); !slices.Equal(got, []entry{{"a", 5}}) {
		t.Errorf("Each tells not what was there: %v", got)
	}
	if got := all(w); len(got) != 0 {
		t.Errorf("Each of what has lapsed: %v", got)
	}
}

// Each tells what was there when it was called, whatever is done to the wheel behind the call or while it is gone over.
func TestP11_4EachWhileTheWheelIsChanged(t *testing.T) {
	l := []entry{{"a", 5}, {"b", 64}, {"c", 65}, {"d", 4096}, {"e", 1 << 30}}
	changes := []func(t *testing.T, x both){
		func(t *testing.T, x both) { x.add(t, "0", 6) },
		func(t *testing.T, x both) { x.add(t, "z", api.MaxTick) },
		func(t *testing.T, x both) { x.change(t, "a", 1<<31) },
		func(t *testing.T, x both) { x.change(t, "e", 6) },
		func(t *testing.T, x both) { x.change(t, "b", 65) },
		func(t *testing.T, x both) { x.remove(t, "a") },
		func(t *testing.T, x both) { x.remove(t, "c") },
		func(t *testing.T, x both) { x.remove(t, "e") },
		func(t *testing.T, x both) { x.advance(t, 5) },
		func(t *testing.T, x both) { x.advance(t, 64) },
		func(t *testing.T, x both) { x.advance(t, api.MaxTick) },
	}
	for _, change := range changes {
		for place := range len(l) {
			x := bothAt(t, 1)
			for _, y := range l {
				x.add(t, y.id, y.at)
			}
			seq := x.w.Each()
			var got []entry
			for id, at := range seq {
				if len(got) == place {
					change(t, x)
				}
				got = append(got, entry{id, at})
			}
			if !slices.Equal(got, l) {
				t.Errorf("changed at place %d: %v", place, got)
			}
			if again := taken(seq, 100); !slices.Equal(again, l) {
				t.Errorf("gone over behind the change: %v", again)
			}
			x.like(t)
		}
	}
}

// Everything is taken out of the wheel by one who goes over it.
func TestP11_4EachMayEmptyItsWheel(t *testing.T) {
	r := rand.New(rand.NewSource(5))
	x := bothAt(t, 99)
	for i := range 300 {
		x.add(t, strconv.Itoa(i), 1+timeFrom(r, 99))
	}
	n := 0
	for id, at := range x.w.Each() {
		got, e := x.w.At(id)
		want(t, "At", got, at)
		want(t, "At's error", e, api.OK)
		want(t, "Remove", x.w.Remove(id), api.OK)
		n++
	}
	want(t, "how many", n, len(x.b.times))
	wantLike(t, x.w, opened(99))
}
