package wheel_test

import (
	"math/rand"
	"slices"
	"strconv"
	"testing"

	"larder/api"
)

// spoil writes over all of a list, its spare room too, and lays something behind it.
func spoil(l []string) {
	l = l[:cap(l)]
	for i := range l {
		l[i] = "spoilt"
	}
	_ = append(l[:0], "laid", "behind")
}

// R4: a list that Advance answers is its holder's own: writing into it shows neither in the wheel nor in another list.
func TestR4ListsShareNoMemory(t *testing.T) {
	x := bothAt(t, 0)
	for i := range 500 {
		x.add(t, strconv.Itoa(i), 1+i/3)
	}
	var lists, copies [][]string
	for to := 0; to <= 100; to += 7 {
		l, e := x.w.Advance(to)
		want(t, "Advance", e, api.OK)
		x.b.advance(to)
		lists = append(lists, l)
		copies = append(copies, slices.Clone(l))
	}
	x.like(t)
	for i := range lists {
		spoil(lists[i])
		x.like(t)
		for j := i + 1; j < len(lists); j++ {
			if !slices.Equal(lists[j], copies[j]) {
				t.Fatalf("what was written into list %d shows in list %d: %q", i, j, lists[j])
			}
		}
	}
	for to := 101; to < 180; to += 9 {
		spoil(x.advance(t, to))
		x.like(t)
	}
}

// R4: the same names in two wheels, in lists from each.
func TestR4ListsOfTwoWheels(t *testing.T) {
	l := []entry{{"a", 5}, {"b", 5}, {"c", 70}}
	one, two := filled(t, 0, l...), filled(t, 0, l...)
	first, _ := one.Advance(70)
	second, _ := two.Advance(70)
	spoil(first)
	if !slices.Equal(second, []string{"a", "b", "c"}) {
		t.Errorf("the other wheel's list: %q", second)
	}
}

// R4: a name is the bytes that it had when it was handed in, though it came out of bytes that are written over.
func TestR4NamesFromBytes(t *testing.T) {
	b := []byte("abc")
	w := made(t, 0)
	for i := range 3 {
		add(t, w, entry{string(b[i : i+1]), 5})
	}
	copy(b, "xyz")
	wantTold(t, w, 5, "a", "b", "c")
}

// R5: asking changes nothing, and the order in which names came does not show.
func TestR5AnswersHangOnTheCallsAlone(t *testing.T) {
	r := rand.New(rand.NewSource(10))
	for range 100 {
		now := moment(r)
		l := someNames(r, now, 1+r.Intn(60))
		quiet, asked := filled(t, now, l...), made(t, now)
		for _, i := range r.Perm(len(l)) {
			// By way of another time, and of being out of the wheel.
			add(t, asked, entry{l[i].id, timeFrom(r, now+1)})
			if r.Intn(2) == 0 {
				want(t, "Remove", asked.Remove(l[i].id), api.OK)
				add(t, asked, entry{l[i].id, timeFrom(r, now+1)})
			}
			want(t, "Change", asked.Change(l[i].id, l[i].at), api.OK)
		}
		for now < api.MaxTick {
			now = timeFrom(r, now+1)
			wantLike(t, asked, bookOf(asked.Now(), all(quiet)))
			a, e := quiet.Advance(now)
			want(t, "Advance", e, api.OK)
			wantTold(t, asked, now, a...)
		}
	}
}

// R1, R2: whatever is asked, in any order, with any arguments, the wheel answers as the slow book does.
func TestR1AndR2AnyCalls(t *testing.T) {
	r := rand.New(rand.NewSource(11))
	count := map[api.Errno]int{}
	for range 400 {
		x := bothAt(t, moment(r))
		for range 100 {
			id := anyName(r, x.b)
			at := anyTime(r, x.b)
			switch r.Intn(7) {
			case 0, 1, 2:
				count[x.add(t, id, at)]++
			case 3:
				count[x.change(t, id, at)]++
			case 4:
				count[x.remove(t, id)]++
			case 5:
				x.at(t, id)
			default:
				if at > x.b.now && r.Intn(4) > 0 {
					at = x.b.now + r.Intn(1+(at-x.b.now)>>r.Intn(40))
				}
				x.advance(t, at)
			}
			x.like(t)
		}
	}
	for _, e := range []api.Errno{api.OK, api.ErrId, api.ErrThere, api.ErrNone, api.ErrArg, api.ErrPast} {
		if count[e] < 500 {
			t.Errorf("error %d came %d times alone", e, count[e])
		}
	}
}

// anyName answers a name that is there, one that is not, or what is none.
func anyName(r *rand.Rand, b *book) string {
	l := b.names()
	switch {
	case r.Intn(12) == 0:
		return ""
	case r.Intn(12) == 0:
		return string(make([]byte, 63+r.Intn(3)))
	case len(l) > 0 && r.Intn(3) == 0:
		return l[r.Intn(len(l))]
	}
	return string([]byte{byte(r.Intn(4))*80 + 5, byte(r.Intn(2)) * 255, byte(r.Intn(3))}[:1+r.Intn(3)])
}

// anyTime answers a time ahead, one that has gone by, the present one, or what is none.
func anyTime(r *rand.Rand, b *book) int {
	switch r.Intn(12) {
	case 0:
		return []int{least, -1, api.MaxTick + 1, greatest, -r.Intn(1 << 40), api.MaxTick + 1 + r.Intn(1<<40)}[r.Intn(6)]
	case 1:
		return r.Intn(b.now + 1)
	case 2:
		return b.now
	case 3:
		return min(b.now+1, api.MaxTick)
	}
	return timeFrom(r, b.now)
}
