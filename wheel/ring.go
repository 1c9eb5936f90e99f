package wheel

import (
	"cmp"
	"iter"
	"math/bits"

	"larder/api"
)

// slotBits is how many bits of a time tell the slot in one ring: WheelSlots is 2 to that power.
const slotBits = 6

// ring is an array of slots; a slot is the first of its names, or nil. A slot of ring n is as long as a whole turn of ring n - 1.
type ring [api.WheelSlots]*timer

// deadline is a name and the time at which it lapses.
type deadline struct {
	id string
	at int
}

// timer is a deadline that hangs in a slot's list. It is linked both ways, so that it may be taken out wherever it hangs.
type timer struct {
	deadline
	back *timer // nil, if it is the first
	next *timer
}

// inOrder is the order in which deadlines are told.
func inOrder(a, b deadline) int {
	return cmp.Or(cmp.Compare(a.at, b.at), cmp.Compare(a.id, b.id))
}

// digit answers digit n of a time in base WheelSlots; the lowest is digit 0.
func digit(at, n int) int {
	return at >> (slotBits * n) & (api.WheelSlots - 1)
}

// apart answers the highest digit in which two times differ; 0, if they are the same.
func apart(a, b int) int {
	return max(bits.Len(uint(a^b))-1, 0) / slotBits
}

// put hangs a timer into a slot.
func (r *ring) put(slot int, t *timer) {
	t.back, t.next = nil, r[slot]
	if t.next != nil {
		t.next.back = t
	}
	r[slot] = t
}

// empty takes all names out of a slot, and answers the first of them.
func (r *ring) empty(slot int) *timer {
	first := r[slot]
	r[slot] = nil
	return first
}

// least answers the least time of a slot's names.
func (t *timer) least() int {
	at := t.at
	for t = t.next; t != nil; t = t.next {
		at = min(at, t.at)
	}
	return at
}

// hang puts a timer where its time belongs.
func (w *Wheel) hang(t *timer) {
	n := apart(t.at, w.now)
	w.rings[n].put(digit(t.at, n), t)
}

// unhang takes a timer out of its slot.
func (w *Wheel) unhang(t *timer) {
	if t.next != nil {
		t.next.back = t.back
	}
	if t.back != nil {
		t.back.next = t.next
		return
	}
	n := apart(t.at, w.now)
	w.rings[n][digit(t.at, n)] = t.next
}

// hanging goes over all timers, slot by slot from the nearest one on, each with the number of its ring.
func (w *Wheel) hanging() iter.Seq2[int, *timer] {
	return func(yield func(int, *timer) bool) {
		for n := range w.rings {
			for _, t := range w.rings[n] {
				for ; t != nil; t = t.next {
					if !yield(n, t) {
						return
					}
				}
			}
		}
	}
}

// turn lets the present time be to, and answers what has lapsed by then, in no order. However far it goes, it looks at each slot once: only slots that begin by then can hold what lapses or falls, those of the highest ring that turns and all below it.
func (w *Wheel) turn(to int) []deadline {
	var lapsed []deadline
	top := apart(w.now, to)
	w.now = to
	// From the nearest ring on: what falls comes to slots that were emptied already.
	for n := range top {
		for slot := range w.rings[n] {
			lapsed = append(lapsed, w.fall(n, slot)...)
		}
	}
	for slot := range digit(to, top) + 1 {
		lapsed = append(lapsed, w.fall(top, slot)...)
	}
	return lapsed
}

// fall empties a slot that has begun: its names go down, each to the first ring in which its time has another digit than the present one, and those whose time has come lapse.
func (w *Wheel) fall(from, slot int) []deadline {
	var lapsed []deadline
	var next *timer
falling:
	for t := w.rings[from].empty(slot); t != nil; t = next {
		next = t.next
		for n := from; n >= 0 && t.at > w.now; n-- {
			if d := digit(t.at, n); d != digit(w.now, n) {
				w.rings[n].put(d, t)
				continue falling
			}
		}
		lapsed = append(lapsed, t.deadline)
	}
	return lapsed
}
