package wheel_test

import (
	"math/rand"
	"strconv"
	"testing"

	"larder/api"
)

// One name, whose highest digit that differs is each of 0 to 6, from moments whose lower digits are 0, 63 or between.
func TestP11_5TheRingOfOneName(t *testing.T) {
	seen := spread{}
	for ring := range 7 {
		size := 1 << (6 * ring)
		for _, below := range []int{0, size - 1, size / 2, size / 3} {
			for _, above := range []int{0, 64 * size, 63 * 64 * size} {
				for own := range 63 {
					now := above + own*size + below
					for _, at := range []int{above + (own+1)*size, above + (own+2)*size - 1, above + 63*size, above + 64*size - 1} {
						if at > api.MaxTick || now >= at {
							continue
						}
						w := filled(t, now, entry{"n", at})
						s := spread{}
						s[ring] = 1
						want(t, "Spread of "+strconv.Itoa(at)+" at "+strconv.Itoa(now), w.Spread(), s)
						want(t, "the ring by its digits", ringOf(at, now), ring)
						seen[ring]++
					}
				}
			}
		}
	}
	for ring, n := range seen {
		if n < 100 {
			t.Errorf("ring %d was seen %d times alone", ring, n)
		}
	}
}

// The very next moment lies as high as the present time's digits of 63 carry it.
func TestP11_5TheNextMomentBehind63s(t *testing.T) {
	for ring := range 7 {
		now := 1<<(6*ring) - 1
		s := spread{}
		s[ring] = 1
		want(t, "Spread", filled(t, now, entry{"n", now + 1}).Spread(), s)
	}
	want(t, "Spread of the last moment", filled(t, api.MaxTick-1, entry{"n", api.MaxTick}).Spread(), spread{0, 0, 0, 0, 0, 0, 1})
	want(t, "Spread of the last moment from the first", filled(t, 0, entry{"n", api.MaxTick}).Spread(), spread{0, 0, 0, 0, 0, 0, 1})
}

// Many wheels at many moments, reckoned anew from the digits of all times.
func TestP11_5SpreadOfManyWheels(t *testing.T) {
	r := rand.New(rand.NewSource(6))
	seen := spread{}
	for range 300 {
		x := bothAt(t, moment(r))
		for i := range r.Intn(60) {
			x.add(t, strconv.Itoa(i), timeFrom(r, x.b.now))
		}
		for range 10 {
			s := x.w.Spread()
			want(t, "Spread", s, x.b.spread())
			for ring, n := range s {
				if n > 0 {
					seen[ring]++
				}
			}
			x.advance(t, timeFrom(r, x.b.now))
			for i := range 3 {
				x.add(t, "more"+strconv.Itoa(i), timeFrom(r, x.b.now))
			}
		}
		x.like(t)
	}
	for ring, n := range seen {
		if n < 100 {
			t.Errorf("ring %d held names %d times alone", ring, n)
		}
	}
}

// The spread that is handed out is its holder's own.
func TestP11_5SpreadIsACopy(t *testing.T) {
	w := filled(t, 0, entry{"n", 64})
	s := w.Spread()
	s[1] = 9
	want(t, "Spread", w.Spread(), spread{0, 1})
}
