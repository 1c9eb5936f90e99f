package wheel_test

import (
	"maps"
	"math/rand"
	"slices"
	"sort"
	"strings"
	"testing"

	"larder/api"
	"larder/wheel"
)

const (
	greatest = int(^uint(0) >> 1)
	least    = -greatest - 1
)

// spread is how many names lie in each ring.
type spread = [api.WheelLevels]int

// entry is a name with its time.
type entry struct {
	id string
	at int
}

// made answers a new wheel.
func made(t *testing.T, now int) *wheel.Wheel {
	t.Helper()
	w, e := wheel.New(now)
	if w == nil || e != api.OK {
		t.Fatalf("New(%d): %v, %d", now, w, e)
	}
	return w
}

// add adds names that the wheel must take.
func add(t *testing.T, w *wheel.Wheel, l ...entry) {
	t.Helper()
	for _, x := range l {
		if e := w.Add(x.id, x.at); e != api.OK {
			t.Fatalf("Add(%q, %d) at %d: %d", x.id, x.at, w.Now(), e)
		}
	}
}

// filled answers a new wheel with names.
func filled(t *testing.T, now int, l ...entry) *wheel.Wheel {
	t.Helper()
	w := made(t, now)
	add(t, w, l...)
	return w
}

func want[T comparable](t *testing.T, name string, got, want T) {
	t.Helper()
	if got != want {
		t.Errorf("%s: %v, want %v", name, got, want)
	}
}

// wantTold advances a wheel and holds what it tells against names.
func wantTold(t *testing.T, w *wheel.Wheel, to int, names ...string) {
	t.Helper()
	from := w.Now()
	got, e := w.Advance(to)
	if e != api.OK || !slices.Equal(got, names) {
		t.Errorf("Advance(%d) from %d: %q, %d, want %q", to, from, got, e, names)
	}
	want(t, "Now behind Advance", w.Now(), to)
}

// wantRefused advances a wheel that must refuse it.
func wantRefused(t *testing.T, w *wheel.Wheel, to int, err api.Errno) {
	t.Helper()
	from := w.Now()
	got, e := w.Advance(to)
	if e != err || len(got) != 0 {
		t.Errorf("Advance(%d) from %d: %q, %d, want none and %d", to, from, got, e, err)
	}
	want(t, "Now behind an Advance that was refused", w.Now(), from)
}

// all answers what Each goes over.
func all(w *wheel.Wheel) []entry {
	var l []entry
	for id, at := range w.Each() {
		l = append(l, entry{id, at})
	}
	return l
}

// book is a slow wheel: a table of names, all of which is gone through for every answer.
type book struct {
	now   int
	times map[string]int
}

func opened(now int) *book {
	return &book{now: now, times: map[string]int{}}
}

// by answers all names that lapse by a time, by time and by name.
func (b *book) by(to int) []entry {
	var l []entry
	for id, at := range b.times {
		if at <= to {
			l = append(l, entry{id, at})
		}
	}
	sort.Slice(l, func(i, j int) bool {
		if l[i].at != l[j].at {
			return l[i].at < l[j].at
		}
		return strings.Compare(l[i].id, l[j].id) < 0
	})
	return l
}

func noTime(at int) bool    { return at < 0 || at > 1099511627776 }
func noName(id string) bool { return id == "" || len(id) > 64 }

// mayBe is what Add and Change ask of a time.
func (b *book) mayBe(at int) api.Errno {
	if noTime(at) {
		return api.ErrArg
	}
	if at <= b.now {
		return api.ErrPast
	}
	return api.OK
}

func (b *book) add(id string, at int) api.Errno {
	if noName(id) {
		return api.ErrId
	}
	if _, there := b.times[id]; there {
		return api.ErrThere
	}
	if e := b.mayBe(at); e != api.OK {
		return e
	}
	if len(b.times) == 4096 {
		return api.ErrFull
	}
	b.times[id] = at
	return api.OK
}

func (b *book) change(id string, at int) api.Errno {
	if _, e := b.at(id); e != api.OK {
		return e
	}
	if e := b.mayBe(at); e != api.OK {
		return e
	}
	b.times[id] = at
	return api.OK
}

func (b *book) remove(id string) api.Errno {
	_, e := b.at(id)
	if e == api.OK {
		delete(b.times, id)
	}
	return e
}

func (b *book) at(id string) (int, api.Errno) {
	if noName(id) {
		return 0, api.ErrId
	}
	at, there := b.times[id]
	if !there {
		return 0, api.ErrNone
	}
	return at, api.OK
}

func (b *book) advance(to int) ([]string, api.Errno) {
	if noTime(to) {
		return nil, api.ErrArg
	}
	if to < b.now {
		return nil, api.ErrPast
	}
	b.now = to
	var l []string
	for _, x := range b.by(to) {
		l = append(l, x.id)
		delete(b.times, x.id)
	}
	return l, api.OK
}

// digits writes a time in base 64, the lowest digit first, by division alone.
func digits(at int) [7]int {
	var l [7]int
	for i := range l {
		l[i] = at % 64
		at /= 64
	}
	return l
}

// ringOf answers the ring of a time, reckoned from its digits.
func ringOf(at, now int) int {
	a, b := digits(at), digits(now)
	for i := 6; i >= 0; i-- {
		if a[i] != b[i] {
			return i
		}
	}
	return -1
}

func (b *book) spread() spread {
	var s spread
	for _, at := range b.times {
		s[ringOf(at, b.now)]++
	}
	return s
}

// wantLike holds everything that can be asked of a wheel against the book.
func wantLike(t *testing.T, w *wheel.Wheel, b *book) {
	t.Helper()
	want(t, "Now", w.Now(), b.now)
	want(t, "Len", w.Len(), len(b.times))
	want(t, "Spread", w.Spread(), b.spread())
	l := b.by(greatest)
	if got := all(w); !slices.Equal(got, l) {
		t.Errorf("Each at %d: %v, want %v", b.now, got, l)
	}
	at, there := w.Next()
	if len(l) == 0 {
		want(t, "Next's time of none", at, 0)
		want(t, "Next of none", there, false)
	} else {
		want(t, "Next's time", at, l[0].at)
		want(t, "Next of some", there, true)
	}
	for _, x := range l {
		if at, e := w.At(x.id); at != x.at || e != api.OK {
			t.Errorf("At(%q): %d, %d, want %d", x.id, at, e, x.at)
		}
	}
}

// both is a wheel beside a book to which the same is done.
type both struct {
	w *wheel.Wheel
	b *book
}

func bothAt(t *testing.T, now int) both {
	t.Helper()
	return both{made(t, now), opened(now)}
}

func (x both) add(t *testing.T, id string, at int) api.Errno {
	t.Helper()
	e := x.b.add(id, at)
	if got := x.w.Add(id, at); got != e {
		t.Fatalf("Add(%q, %d) at %d, with %d names: %d, want %d", id, at, x.b.now, len(x.b.times), got, e)
	}
	return e
}

func (x both) change(t *testing.T, id string, at int) api.Errno {
	t.Helper()
	e := x.b.change(id, at)
	if got := x.w.Change(id, at); got != e {
		t.Fatalf("Change(%q, %d) at %d: %d, want %d", id, at, x.b.now, got, e)
	}
	return e
}

func (x both) remove(t *testing.T, id string) api.Errno {
	t.Helper()
	e := x.b.remove(id)
	if got := x.w.Remove(id); got != e {
		t.Fatalf("Remove(%q) at %d: %d, want %d", id, x.b.now, got, e)
	}
	return e
}

func (x both) at(t *testing.T, id string) {
	t.Helper()
	at, e := x.b.at(id)
	if got, err := x.w.At(id); got != at || err != e {
		t.Fatalf("At(%q): %d, %d, want %d, %d", id, got, err, at, e)
	}
}

func (x both) advance(t *testing.T, to int) []string {
	t.Helper()
	from := x.b.now
	l, e := x.b.advance(to)
	if got, err := x.w.Advance(to); !slices.Equal(got, l) || err != e {
		t.Fatalf("Advance(%d) from %d: %q, %d, want %q, %d", to, from, got, err, l, e)
	}
	return l
}

func (x both) like(t *testing.T) {
	t.Helper()
	wantLike(t, x.w, x.b)
	if t.Failed() {
		t.FailNow()
	}
}

// names answers the book's names, in order.
func (b *book) names() []string {
	return slices.Sorted(maps.Keys(b.times))
}

// timeFrom answers a time from a moment on, as near as far, often where a slot of some ring begins or ends.
func timeFrom(r *rand.Rand, now int) int {
	size := 1 << (6 * r.Intn(7))
	at := now + r.Intn(1<<r.Intn(42))
	switch r.Intn(4) {
	case 0:
		at = now + r.Intn(70)
	case 1:
		at = (now/size+1+r.Intn(3))*size + r.Intn(3) - 1
	case 2:
		at = (now/size+1+r.Intn(64))*size - 1
	}
	return max(now, min(at, api.MaxTick))
}

// moment answers a present time of any size, often with digits of 63 in its lower rings.
func moment(r *rand.Rand) int {
	now := r.Intn(1 << r.Intn(41))
	if r.Intn(2) == 0 {
		now |= 1<<(6*r.Intn(7)) - 1
	}
	return now
}
