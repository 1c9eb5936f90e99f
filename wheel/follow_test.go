package wheel_test

import (
	"math/rand"
	"slices"
	"strconv"
	"testing"

	"larder/api"
	"larder/wheel"
)

// someNames answers names with times behind a moment, several of them at one time.
func someNames(r *rand.Rand, now, n int) []entry {
	var l []entry
	for i := range n {
		at := timeFrom(r, now)
		if len(l) > 0 && r.Intn(3) == 0 {
			at = l[r.Intn(len(l))].at
		}
		if at > now {
			l = append(l, entry{strconv.Itoa(r.Intn(10)) + "-" + strconv.Itoa(i), at})
		}
	}
	return l
}

// stopsUpTo answers moments from now to an end, rising, at the times of names, beside them or anywhere.
func stopsUpTo(r *rand.Rand, now, end int, l []entry) []int {
	var stops []int
	for range r.Intn(30) {
		stop := now + r.Intn(end-now+1)
		switch r.Intn(3) {
		case 0:
			stop = timeFrom(r, now)
		case 1:
			stop = l[r.Intn(len(l))].at + r.Intn(3) - 1
		}
		if stop >= now && stop <= end {
			stops = append(stops, stop)
		}
	}
	slices.Sort(stops)
	return append(stops, end)
}

// inOneGo and byStops answer all names that were told on the way to a time.
func inOneGo(t *testing.T, w *wheel.Wheel, to int) []string {
	t.Helper()
	l, e := w.Advance(to)
	want(t, "Advance", e, api.OK)
	return l
}

func byStops(t *testing.T, w *wheel.Wheel, stops []int) []string {
	t.Helper()
	var told []string
	for _, to := range stops {
		told = append(told, inOneGo(t, w, to)...)
	}
	return told
}

func TestP11_7OneAdvanceOrMany(t *testing.T) {
	r := rand.New(rand.NewSource(7))
	told, left := 0, 0
	for range 1500 {
		now := moment(r)
		l := someNames(r, now, 1+r.Intn(80))
		if len(l) == 0 {
			continue
		}
		end := timeFrom(r, l[r.Intn(len(l))].at-1)
		one := filled(t, now, l...)
		names := inOneGo(t, one, end)
		for range 3 {
			many := filled(t, now, l...)
			stops := stopsUpTo(r, now, end, l)
			if got := byStops(t, many, stops); !slices.Equal(got, names) {
				t.Fatalf("%v from %d by %v: %q, in one go %q", l, now, stops, got, names)
			}
			want(t, "Spread", many.Spread(), one.Spread())
			want(t, "Now", many.Now(), one.Now())
			if a, b := all(many), all(one); !slices.Equal(a, b) {
				t.Fatalf("left: %v, in one go %v", a, b)
			}
		}
		told += len(names)
		left += one.Len()
	}
	if told < 10000 || left < 10000 {
		t.Errorf("%d names were told, %d left: too few to say anything", told, left)
	}
}

// Each single moment on the way, against one Advance.
func TestP11_7EveryMomentOnTheWay(t *testing.T) {
	r := rand.New(rand.NewSource(8))
	for _, now := range []int{0, 40, 64*64 - 300, 1<<18 - 4500, 1<<36 - 200, api.MaxTick - 5000} {
		end := min(now+5000, api.MaxTick)
		var l []entry
		for i := range 400 {
			l = append(l, entry{strconv.Itoa(i), now + 1 + r.Intn(end-now)})
		}
		l = append(l, entry{"far", api.MaxTick})
		one, many := filled(t, now, l...), filled(t, now, l...)
		names := inOneGo(t, one, end)
		var told []string
		for to := now; to <= end; to++ {
			told = append(told, inOneGo(t, many, to)...)
		}
		if !slices.Equal(told, names) {
			t.Errorf("from %d to %d: %q, in one go %q", now, end, told, names)
		}
		want(t, "Spread", many.Spread(), one.Spread())
	}
}

// life is what happened to a name since it was added last.
type life struct {
	at   int
	ring int
}

// watch holds what follows of the calls, as a script goes on, by the wheel's own answers alone.
type watch struct {
	w     *wheel.Wheel
	alive map[string]life
	told  int
	falls int
}

// tick advances, and looks at what was told: each name once, not ahead of its time, none too late.
func (x *watch) tick(t *testing.T, to int) {
	t.Helper()
	l, e := x.w.Advance(to)
	want(t, "Advance", e, api.OK)
	ahead := entry{"", -1}
	for _, id := range l {
		y, there := x.alive[id]
		if !there {
			t.Fatalf("%q was told, and is not there (any more)", id)
		}
		if y.at > to {
			t.Fatalf("%q was told at %d, ahead of its time %d", id, to, y.at)
		}
		if y.at < ahead.at || y.at == ahead.at && id <= ahead.id {
			t.Fatalf("%q at %d was told behind %q at %d", id, y.at, ahead.id, ahead.at)
		}
		ahead = entry{id, y.at}
		delete(x.alive, id)
		x.told++
	}
}

// look holds the wheel's answers against one another.
func (x *watch) look(t *testing.T) {
	t.Helper()
	sum := 0
	for _, n := range x.w.Spread() {
		sum += n
	}
	want(t, "the sum of Spread", sum, x.w.Len())
	want(t, "Len", x.w.Len(), len(x.alive))
	l := all(x.w)
	want(t, "Each's length", len(l), x.w.Len())
	at, there := x.w.Next()
	want(t, "Next", there, len(l) > 0)
	if len(l) > 0 {
		want(t, "Next's time", at, l[0].at)
	}
	var rings spread
	for _, y := range l {
		if y.at <= x.w.Now() {
			t.Fatalf("%q is there at %d, and its time is %d", y.id, x.w.Now(), y.at)
		}
		was := x.alive[y.id]
		ring := ringOf(y.at, x.w.Now())
		if was.at != y.at || ring > was.ring {
			t.Fatalf("%q: time %d, ring %d; it had time %d, ring %d", y.id, y.at, ring, was.at, was.ring)
		}
		if ring < was.ring {
			x.falls++
		}
		x.alive[y.id] = life{y.at, ring}
		rings[ring]++
	}
	want(t, "Spread", x.w.Spread(), rings)
	if t.Failed() {
		t.FailNow()
	}
}

// set adds a name, or changes it.
func (x *watch) set(t *testing.T, id string, at int) {
	t.Helper()
	if _, there := x.alive[id]; there {
		want(t, "Change", x.w.Change(id, at), api.OK)
	} else {
		want(t, "Add", x.w.Add(id, at), api.OK)
	}
	x.alive[id] = life{at, ringOf(at, x.w.Now())}
}

func TestP11_8ManyScripts(t *testing.T) {
	r := rand.New(rand.NewSource(9))
	told, falls := 0, 0
	for range 300 {
		x := &watch{w: made(t, moment(r)), alive: map[string]life{}}
		for range 120 {
			id := strconv.Itoa(r.Intn(40))
			now := x.w.Now()
			if now == api.MaxTick {
				break
			}
			switch r.Intn(8) {
			case 0, 1, 2, 3:
				x.set(t, id, timeFrom(r, now+1))
			case 4:
				if x.w.Remove(id) == api.OK {
					delete(x.alive, id)
				}
			default:
				to := min(now+r.Intn(1<<r.Intn(36)), api.MaxTick)
				if at, there := x.w.Next(); there && r.Intn(2) == 0 {
					to = max(now, at+r.Intn(3)-1)
				}
				x.tick(t, min(to, api.MaxTick))
			}
			x.look(t)
		}
		x.tick(t, api.MaxTick)
		want(t, "names left at the end of time", len(x.alive), 0)
		x.look(t)
		told += x.told
		falls += x.falls
	}
	if told < 5000 || falls < 1000 {
		t.Errorf("%d names were told, %d fell: too few to say anything", told, falls)
	}
}

// One name on its way from the first moment to its time: its ring, as Spread tells it, never rises, and it passes each ring.
func TestP11_8OneNameFallsFromRingToRing(t *testing.T) {
	for _, at := range []int{api.MaxTick - 1, api.MaxTick, 0x7edcba9876, 1<<36 + 1<<30 + 1<<24 + 1<<18 + 1<<12 + 1<<6 + 1} {
		w := filled(t, 0, entry{"n", at})
		ring := 6
		rings := 0
		for step := 40; step >= 0; step-- {
			for w.Now()+1<<step < at {
				wantTold(t, w, w.Now()+1<<step)
				s := w.Spread()
				now := slices.Index(s[:], 1)
				if now < 0 || now > ring {
					t.Fatalf("at %d: %v, it was in ring %d", w.Now(), s, ring)
				}
				if now < ring {
					rings++
				}
				ring = now
			}
		}
		if rings == 0 && at != api.MaxTick {
			t.Errorf("the name for %d never fell", at)
		}
		wantTold(t, w, at-1)
		wantTold(t, w, at, "n")
	}
}
