package cart_test

import (
	"slices"
	"testing"

	"larder/api"
)

// TestP14_6_NumbersAndPoints: effects without a stripe in common may have their points in another order than their numbers; ledgers come to the same either way. Those that have one in common have them in the same order.
func TestP14_6_NumbersAndPoints(t *testing.T) {
	x := wide(3)
	list := []api.Request{restock(id("1", 0), line(x.o, 1)), hold(id("2", 1), 5, line(x.p, 2)), writeoff(id("3", 2), line(x.q, 3))}
	for _, numbers := range [][]int{{0, 1, 2}, {2, 0, 1}, {1, 2, 0}, {2, 1, 0}} {
		for _, points := range [][]int{{0, 1, 2}, {2, 1, 0}, {1, 0, 2}} {
			m, _ := memory(t, x.c, x.full(), 1)
			for _, h := range numbers {
				start(t, m, h, list[h])
				to(t, m, h, "Number")
			}
			for i, h := range numbers {
				step(t, m, h)
				want(t, "Number", m.Number(h), i+1)
			}
			var told []api.Point
			for _, h := range points {
				to(t, m, h, "Note")
				step(t, m, h)
				told = append(told, api.Point{Handler: h, Lsn: 1 + slices.Index(numbers, h)})
				wantPoints(t, m, told...)
			}
			byNumber, byPoint := ledgerOf(t, x.full()), ledgerOf(t, x.full())
			for i := range 3 {
				byNumber.Do(list[numbers[i]])
				byPoint.Do(list[points[i]])
			}
			wantState(t, m, byNumber.State())
			wantState(t, m, byPoint.State())
			for h := range 3 {
				want(t, "Last", m.Last(h), 1+slices.Index(numbers, h))
			}
			want(t, "Noted", m.View().Noted, 3)
			for h := range 3 {
				to(t, m, h, "Wait")
			}
			for h := range 3 {
				run(t, m, h)
			}
		}
	}
}

// TestP14_6_InCommon: whoever has its lock first has the lesser number and the earlier point.
func TestP14_6_InCommon(t *testing.T) {
	x := wide(2)
	for _, first := range []int{0, 1} {
		m, _ := memory(t, x.c, x.full(), 1)
		start(t, m, 0, restock(id("1", 0), line(x.p, 1)))
		start(t, m, 1, writeoff(id("2", 2), line(x.p, 50)))
		to(t, m, first, "Check")
		for standing(m, 1-first) != "Enter0" && standing(m, 1-first) != "Enter1" || m.On(1-first) == -1 {
			step(t, m, 1-first)
		}
		for standing(m, first) != "Wait" {
			wantBlockedUntil(t, m.On(1-first), standing(m, first))
			step(t, m, first)
		}
		run(t, m, 1-first)
		run(t, m, first)
		wantPoints(t, m, api.Point{Handler: first, Lsn: 1}, api.Point{Handler: 1 - first, Lsn: 2})
	}
}

// wantBlockedUntil asks that the other is blocked on the stripe in common, 1, as long as the first has not left it.
func wantBlockedUntil(t *testing.T, on int, at string) {
	t.Helper()
	if on != 1 && at != "Leave0" {
		t.Errorf("when the first stands in %s the other is blocked on %d", at, on)
	}
}

// TestP14_7_NothingToldBefore: an effect is told behind the Barrier of its flush, whoever does that.
func TestP14_7_NothingToldBefore(t *testing.T) {
	x := wide(2)
	m, d := memory(t, x.c, x.full(), 1)
	start(t, m, 0, restock(id("1", 0), line(x.o, 1)))
	start(t, m, 1, restock(id("2", 1), line(x.p, 1)))
	to(t, m, 0, "Wait")
	to(t, m, 1, "Wait")
	step(t, m, 0)
	for standing(m, 0) != "Wait" {
		wantBlocked(t, m, 1, api.OnWater)
		if _, told := m.Reply(1); told || m.View().Durable != 0 {
			t.Errorf("told in %s, %+v", standing(m, 0), m.View())
		}
		step(t, m, 0)
	}
	want(t, "Durable", m.View().Durable, 2)
	want(t, "loose writes", len(d.Pending()), 0)
	run(t, m, 1)
	run(t, m, 0)
}
