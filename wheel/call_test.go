package wheel_test

import (
	"strconv"
	"strings"
	"testing"

	"larder/api"
	"larder/wheel"
)

func TestP11_1NewTakesTimesAlone(t *testing.T) {
	for _, now := range []int{0, 1, 63, 64, 4095, 4096, api.MaxTick - 1, api.MaxTick} {
		wantLike(t, made(t, now), opened(now))
	}
	for _, now := range []int{-1, -64, least, api.MaxTick + 1, 2 * api.MaxTick, greatest} {
		w, e := wheel.New(now)
		if w != nil || e != api.ErrArg {
			t.Errorf("New(%d): %v, %d, want nil and ErrArg", now, w, e)
		}
	}
}

func TestP11_1WheelsAreEachAlone(t *testing.T) {
	a, b := filled(t, 0, entry{"x", 9}), made(t, 0)
	wantLike(t, b, opened(0))
	add(t, b, entry{"x", 7})
	wantTold(t, b, 7, "x")
	wantLike(t, a, &book{0, map[string]int{"x": 9}})
}

func TestP11_2NamesHave1To64BytesOfAnyKind(t *testing.T) {
	var names []string
	for b := range 256 {
		names = append(names, string([]byte{byte(b)}))
	}
	long := strings.Repeat("\xff", 63)
	names = append(names, "\x00\x00", "a\x00", "aa", "ab", "\xff\xfe", "\xc3\xa9", "\n ", long, long+"\x00", long+"\xff", strings.Repeat("z", 64))
	x := bothAt(t, 9)
	for i, id := range names {
		want(t, "Add of "+strconv.Quote(id), x.add(t, id, 10+i%7*50), api.OK)
	}
	x.like(t)
	for i, id := range names {
		want(t, "Change of "+strconv.Quote(id), x.change(t, id, 10+i%5*1000), api.OK)
		x.at(t, id)
	}
	for i, id := range names {
		if i%3 == 0 {
			want(t, "Remove of "+strconv.Quote(id), x.remove(t, id), api.OK)
		}
	}
	x.like(t)
	if l := x.advance(t, 5000); len(l) != len(names)-(len(names)+2)/3 {
		t.Errorf("%d names were told of %d", len(l), len(names))
	}
	x.like(t)
}

func TestP11_2WhatIsNoName(t *testing.T) {
	for _, id := range []string{"", strings.Repeat("a", 65), strings.Repeat("\x00", 65), strings.Repeat("a", 66), strings.Repeat("a", 1<<20)} {
		x := bothAt(t, 5)
		x.add(t, "a", 9)
		x.add(t, strings.Repeat("a", 64), 9)
		// ErrId comes ahead of what is wrong with the time.
		for _, at := range []int{least, -1, 0, 5, 6, 9, api.MaxTick, api.MaxTick + 1, greatest} {
			want(t, "Add", x.w.Add(id, at), api.ErrId)
			want(t, "Change", x.w.Change(id, at), api.ErrId)
		}
		want(t, "Remove", x.w.Remove(id), api.ErrId)
		at, e := x.w.At(id)
		want(t, "At", e, api.ErrId)
		want(t, "At's time", at, 0)
		x.like(t)
	}
}

// Names of which one is the other's beginning are two names.
func TestP11_2NamesThatBeginAlike(t *testing.T) {
	x := bothAt(t, 0)
	x.add(t, "aa", 7)
	for _, id := range []string{"a", "aaa", "aa\x00", "AA", "ab"} {
		at, e := x.w.At(id)
		want(t, "At's time", at, 0)
		want(t, "At", e, api.ErrNone)
		want(t, "Change", x.w.Change(id, 9), api.ErrNone)
		want(t, "Remove", x.w.Remove(id), api.ErrNone)
	}
	x.like(t)
	for _, id := range []string{"aaa", "a", "aa\x00"} {
		want(t, "Add", x.add(t, id, 7), api.OK)
	}
	wantTold(t, x.w, 7, "a", "aa", "aa\x00", "aaa")
}

func TestP11_2TimesOfAddAndChange(t *testing.T) {
	for _, c := range []struct {
		now, at int
		e       api.Errno
	}{
		{0, least, api.ErrArg}, {0, -1, api.ErrArg}, {0, 0, api.ErrPast}, {0, 1, api.OK},
		{0, api.MaxTick - 1, api.OK}, {0, api.MaxTick, api.OK}, {0, api.MaxTick + 1, api.ErrArg}, {0, greatest, api.ErrArg},
		{100, least, api.ErrArg}, {100, -1, api.ErrArg}, {100, 0, api.ErrPast}, {100, 99, api.ErrPast}, {100, 100, api.ErrPast}, {100, 101, api.OK},
		{63, 62, api.ErrPast}, {63, 63, api.ErrPast}, {63, 64, api.OK}, {64, 63, api.ErrPast}, {4095, 4096, api.OK}, {4096, 4095, api.ErrPast},
		{api.MaxTick - 1, api.MaxTick - 1, api.ErrPast}, {api.MaxTick - 1, api.MaxTick, api.OK}, {api.MaxTick - 1, api.MaxTick + 1, api.ErrArg},
		{api.MaxTick, 0, api.ErrPast}, {api.MaxTick, api.MaxTick, api.ErrPast}, {api.MaxTick, api.MaxTick + 1, api.ErrArg}, {api.MaxTick, -1, api.ErrArg},
	} {
		x := bothAt(t, c.now)
		want(t, "Add", x.w.Add("n", c.at), c.e)
		if c.e == api.OK {
			x.b.times["n"] = c.at
		}
		x.like(t)
		if c.now == api.MaxTick {
			continue
		}
		x = bothAt(t, c.now)
		x.add(t, "n", api.MaxTick)
		want(t, "Change", x.w.Change("n", c.at), c.e)
		if c.e == api.OK {
			x.b.times["n"] = c.at
		}
		x.like(t)
	}
}

// The same, where the present time is one that was come to, not begun with.
func TestP11_2TimesAreHeldAgainstThePresentOne(t *testing.T) {
	x := bothAt(t, 3)
	x.add(t, "n", 500)
	x.advance(t, 100)
	for _, at := range []int{0, 3, 4, 99, 100} {
		want(t, "Add of what has gone by", x.w.Add("m", at), api.ErrPast)
		want(t, "Change to what has gone by", x.w.Change("n", at), api.ErrPast)
	}
	x.like(t)
	want(t, "Add", x.add(t, "m", 101), api.OK)
	want(t, "Change", x.change(t, "n", 101), api.OK)
	x.like(t)
}

func TestP11_2ANameThatIsThere(t *testing.T) {
	x := bothAt(t, 10)
	x.add(t, "n", 20)
	for _, at := range []int{least, -1, 0, 10, 11, 20, 21, api.MaxTick, api.MaxTick + 1, greatest} {
		want(t, "Add", x.w.Add("n", at), api.ErrThere)
	}
	x.like(t)
	// What was removed, or has lapsed, is there no more.
	want(t, "Remove", x.remove(t, "n"), api.OK)
	want(t, "Add behind Remove", x.add(t, "n", 30), api.OK)
	x.like(t)
	x.advance(t, 30)
	want(t, "Add behind its time", x.add(t, "n", 40), api.OK)
	x.like(t)
}

func TestP11_2ANameThatIsNotThere(t *testing.T) {
	x := bothAt(t, 10)
	x.add(t, "n", 20)
	x.add(t, "gone", 20)
	x.remove(t, "gone")
	x.add(t, "lapsed", 11)
	x.advance(t, 12)
	for _, id := range []string{"m", "gone", "lapsed"} {
		for _, at := range []int{least, -1, 0, 12, 13, api.MaxTick, api.MaxTick + 1, greatest} {
			want(t, "Change", x.w.Change(id, at), api.ErrNone)
		}
		want(t, "Remove", x.w.Remove(id), api.ErrNone)
		at, e := x.w.At(id)
		want(t, "At", e, api.ErrNone)
		want(t, "At's time", at, 0)
	}
	x.like(t)
}

func TestP11_2AFullWheel(t *testing.T) {
	x := bothAt(t, 1000)
	for i := range api.MaxTimers {
		want(t, "Add", x.add(t, "n"+strconv.Itoa(i), 1001+i*i*i), api.OK)
	}
	x.like(t)
	for _, at := range []int{1001, 5000, api.MaxTick} {
		want(t, "Add of one more", x.w.Add("m", at), api.ErrFull)
	}
	// ErrFull comes behind all else.
	want(t, "Add of no name", x.w.Add("", 2000), api.ErrId)
	want(t, "Add of a name that is there", x.w.Add("n5", 2000), api.ErrThere)
	want(t, "Add of no time", x.w.Add("m", -1), api.ErrArg)
	want(t, "Add of a time that has gone by", x.w.Add("m", 1000), api.ErrPast)
	x.like(t)

	want(t, "Change of a full wheel", x.change(t, "n4095", 1001), api.OK)
	want(t, "Change of a full wheel", x.change(t, "n0", api.MaxTick), api.OK)
	x.like(t)
	want(t, "Remove of a full wheel", x.remove(t, "n4000"), api.OK)
	want(t, "Add behind it", x.add(t, "m", 3000), api.OK)
	want(t, "Add of yet one more", x.add(t, "n4000", 3000), api.ErrFull)
	x.like(t)
	if l := x.advance(t, 1002); len(l) != 2 {
		t.Errorf("Advance of a full wheel: %q", l)
	}
	want(t, "Add behind Advance", x.add(t, "n1", 3000), api.OK)
	want(t, "Add behind Advance", x.add(t, "n4000", 3000), api.OK)
	want(t, "Add of one more behind Advance", x.add(t, "n4095", 3000), api.ErrFull)
	x.like(t)
	x.advance(t, api.MaxTick)
	x.like(t)
}

// A name's time is changed from any ring to any other, and within its slot.
func TestP11_2ChangeFromRingToRing(t *testing.T) {
	for _, now := range []int{0, 1, 63, 64*63 + 62, 1<<36 - 1, 1<<36 - 2, 1<<30 + 5} {
		var times []int
		for at := now + 1; at < api.MaxTick; at += max(1, at-now) {
			times = append(times, at, at+1)
		}
		times = append(times, api.MaxTick)
		for _, from := range times {
			for _, to := range times {
				x := bothAt(t, now)
				x.add(t, "n", from)
				want(t, "Change", x.change(t, "n", to), api.OK)
				x.like(t)
				x.advance(t, to-1)
				x.like(t)
				if l := x.advance(t, to); len(l) != 1 {
					t.Fatalf("changed from %d to %d, from %d on: %q", from, to, now, l)
				}
			}
		}
	}
}

// Of the names of one slot any one may be changed or taken out, the first, the last, those between.
func TestP11_2ChangeAndRemoveWithinASlot(t *testing.T) {
	names := []string{"a", "b", "c", "d"}
	for size := 1; size <= len(names); size++ {
		for one := range size {
			for two := range size {
				for _, at := range []int{0, 200, 201, 203, 260, 130, 1 << 20} {
					x := bothAt(t, 128+64+3)
					for i, id := range names[:size] {
						x.add(t, id, 200+i/2)
					}
					if at == 0 {
						want(t, "Remove", x.remove(t, names[one]), api.OK)
					} else {
						x.change(t, names[one], at)
					}
					x.like(t)
					x.remove(t, names[two])
					x.like(t)
					x.advance(t, 200)
					x.like(t)
					x.advance(t, 201)
					x.like(t)
				}
			}
		}
	}
}

func TestP11_2AtTellsAndChangesNothing(t *testing.T) {
	x := bothAt(t, 0)
	for i, at := range []int{1, 63, 64, 4095, 4096, 1 << 18, 1 << 24, 1 << 30, 1 << 36, api.MaxTick} {
		x.add(t, strconv.Itoa(i), at)
	}
	for range 3 {
		for i := range 12 {
			x.at(t, strconv.Itoa(i))
		}
	}
	x.like(t)
}

func TestP11_6ANilWheel(t *testing.T) {
	var w *wheel.Wheel
	for _, id := range []string{"", "a", strings.Repeat("a", 65)} {
		for _, at := range []int{least, -1, 0, 1, api.MaxTick, api.MaxTick + 1, greatest} {
			want(t, "Add", w.Add(id, at), api.OK)
			want(t, "Change", w.Change(id, at), api.OK)
			l, e := w.Advance(at)
			want(t, "Advance's names", len(l), 0)
			want(t, "Advance", e, api.OK)
		}
		want(t, "Remove", w.Remove(id), api.OK)
		at, e := w.At(id)
		want(t, "At's time", at, 0)
		want(t, "At", e, api.OK)
	}
	at, there := w.Next()
	want(t, "Next's time", at, 0)
	want(t, "Next", there, false)
	want(t, "Now", w.Now(), 0)
	want(t, "Len", w.Len(), 0)
	want(t, "Spread", w.Spread(), spread{})
	for id := range w.Each() {
		t.Errorf("Each: %q", id)
	}
}

// R1: a Wheel that New did not make is one at time 0.
func TestR1AWheelThatNewDidNotMake(t *testing.T) {
	wantLike(t, new(wheel.Wheel), opened(0))
	w := new(wheel.Wheel)
	want(t, "Change", w.Change("a", 5), api.ErrNone)
	want(t, "Remove", w.Remove("a"), api.ErrNone)
	wantTold(t, w, 0)
	add(t, w, entry{"a", 5}, entry{"b", 64})
	wantLike(t, w, &book{0, map[string]int{"a": 5, "b": 64}})
	wantTold(t, w, 64, "a", "b")
}
