package disk_test

import (
	"math"
	"math/rand"
	"testing"

	"larder/api"
)

func TestP6_5AtEachMoment(t *testing.T) {
	i, a, b, c, zero := full('i'), full('a'), full('b'), full('c'), full(0)
	d := newDisk(t, i, 2)
	write(t, d, 0, a)
	write(t, d, 1, b)
	flush(t, d)
	write(t, d, 0, c)
	none := [][]byte{joined(i, zero), joined(i, zero), joined(i, zero), joined(a, b), joined(a, b)}
	all := [][]byte{joined(i, zero), joined(a, zero), joined(a, b), joined(a, b), joined(c, b)}
	for n := range none {
		wantAt(t, d, n, api.Crash{Torn: -1}, none[n])
		wantAt(t, d, n, api.Crash{Keep: []int{0, 1}, Torn: -1}, all[n])
	}
}

func TestP6_5AtRefuses(t *testing.T) {
	d := newDisk(t, nil, 1)
	write(t, d, 0, full('a'))
	for _, n := range []int{-1, 2, 3, math.MinInt, math.MaxInt} {
		wantNoAt(t, d, n, api.Crash{})
		wantNoAt(t, d, n, api.Crash{Keep: []int{0}, Torn: -1, Bytes: 64})
	}
	for _, size := range []int{-1, 129, 5000, math.MinInt, math.MaxInt} {
		for n := range 2 {
			wantNoAt(t, d, n, api.Crash{Bytes: size})
			// Bytes that no write's are must be right for all that.
			wantNoAt(t, d, n, api.Crash{Keep: []int{0}, Torn: -1, Bytes: size})
			wantNoAt(t, d, n, api.Crash{Torn: 7, Bytes: size})
		}
	}
	wantAt(t, d, 0, api.Crash{}, full(0))
	wantAt(t, d, 1, api.Crash{Bytes: 128}, full('a'))
}

func TestP6_5TornAtEachByte(t *testing.T) {
	a, b, old := full('a'), full('b'), full('o')
	d := newDisk(t, joined(old, old), 2)
	write(t, d, 1, a)
	write(t, d, 0, b)
	for size := range api.SectorBytes + 1 {
		tornA, tornB := joined(a[:size], old[size:]), joined(b[:size], old[size:])
		wantAt(t, d, 2, api.Crash{Torn: 0, Bytes: size}, joined(old, tornA))
		wantAt(t, d, 2, api.Crash{Torn: 1, Bytes: size}, joined(tornB, old))
		wantAt(t, d, 2, api.Crash{Keep: []int{0}, Torn: 1, Bytes: size}, joined(tornB, a))
		wantAt(t, d, 2, api.Crash{Keep: []int{1}, Torn: 0, Bytes: size}, joined(b, tornA))
		wantAt(t, d, 1, api.Crash{Torn: 0, Bytes: size}, joined(old, tornA))
		wantAt(t, d, 1, api.Crash{Torn: 1, Bytes: size}, joined(old, old))
	}
}

// One that is kept is there whole, though it is also to be torn.
func TestP6_5TornAndKept(t *testing.T) {
	d := newDisk(t, nil, 1)
	write(t, d, 0, full('a'))
	for _, size := range []int{0, 1, 127, 128} {
		wantAt(t, d, 1, api.Crash{Keep: []int{0}, Torn: 0, Bytes: size}, full('a'))
		wantAt(t, d, 1, api.Crash{Keep: []int{0, 0}, Torn: 0, Bytes: size}, full('a'))
	}
}

func TestP6_5NumbersThatAreNoPlace(t *testing.T) {
	zero, a, b := full(0), full('a'), full('b')
	d := newDisk(t, nil, 2)
	write(t, d, 0, a)
	write(t, d, 1, b)
	for _, no := range []int{-1, -2, 2, 3, 1000, math.MinInt, math.MaxInt} {
		wantAt(t, d, 2, api.Crash{Torn: no, Bytes: 64}, joined(zero, zero))
		wantAt(t, d, 2, api.Crash{Keep: []int{no}, Torn: no, Bytes: 64}, joined(zero, zero))
		wantAt(t, d, 2, api.Crash{Keep: []int{no, 1, no, 1, 1}, Torn: no, Bytes: 64}, joined(zero, b))
		wantAt(t, d, 2, api.Crash{Keep: []int{1, no, 0}, Torn: no, Bytes: 64}, joined(a, b))
		wantAt(t, d, 0, api.Crash{Keep: []int{no}, Torn: no, Bytes: 128}, joined(zero, zero))
	}
	// At moment 1 write number 1 has not come yet, and at moment 0 none has.
	wantAt(t, d, 1, api.Crash{Keep: []int{1}, Torn: 1, Bytes: 128}, joined(zero, zero))
	wantAt(t, d, 0, api.Crash{Keep: []int{0, 1}, Torn: 0, Bytes: 128}, joined(zero, zero))
}

// The writes are laid in their own order, whatever the order in Keep is.
func TestP6_5OneSectorSeveralTimes(t *testing.T) {
	a, b, c, old := full('a'), full('b'), full('c'), full('o')
	d := newDisk(t, nil, 1)
	write(t, d, 0, c)
	write(t, d, 0, old)
	flush(t, d)
	write(t, d, 0, a)
	write(t, d, 0, b)
	write(t, d, 0, c)
	for _, x := range []struct {
		keep        []int
		torn, bytes int
		want        []byte
	}{
		{nil, -1, 0, old}, {[]int{0}, -1, 0, a}, {[]int{1}, -1, 0, b}, {[]int{2}, -1, 0, c},
		{[]int{2, 1, 0}, -1, 0, c}, {[]int{1, 0}, -1, 0, b}, {[]int{2, 0}, -1, 0, c},
		{[]int{0, 2}, 1, 64, c}, {[]int{1}, 0, 64, b}, {[]int{2}, 0, 64, c},
		{[]int{0}, 1, 64, joined(b[:64], a[64:])}, {[]int{0, 1}, 2, 1, joined(c[:1], b[1:])},
		{nil, 1, 100, joined(b[:100], old[100:])}, {[]int{0}, 2, 127, joined(c[:127], a[127:])},
	} {
		wantAt(t, d, 6, api.Crash{Keep: x.keep, Torn: x.torn, Bytes: x.bytes}, x.want)
	}
	wantAt(t, d, 2, api.Crash{Keep: []int{0}, Torn: 1, Bytes: 3}, joined(old[:3], c[3:]))
	wantAt(t, d, 3, api.Crash{Keep: []int{0}, Torn: 1, Bytes: 3}, old)
}

// A write of zeros is a write: it must not be taken for a flush, nor for nothing.
func TestP6_5AWriteOfZeros(t *testing.T) {
	d := newDisk(t, full('i'), 1)
	write(t, d, 0, full(0))
	wantCounts(t, d, 1, 0)
	wantImages(t, d, full(0), full('i'))
	wantAt(t, d, 1, api.Crash{Bytes: 5}, joined(full(0)[:5], full('i')[5:]))
	wantAt(t, d, 1, api.Crash{Keep: []int{0}}, full(0))
}

func TestP6_5ManyMoments(t *testing.T) {
	r := rand.New(rand.NewSource(65))
	for range 400 {
		d, p := randomDisk(t, r, r.Intn(40))
		for n := range d.Count() + 1 {
			for range 4 {
				c := randomCrash(r, len(p.pending(n)))
				wantAt(t, d, n, c, p.at(n, c))
			}
		}
		wantNoAt(t, d, d.Count()+1, api.Crash{})
	}
}

func TestP6_5ALongKeep(t *testing.T) {
	d := newDisk(t, nil, 2)
	fill(t, d, 0)
	keep := make([]int, 1<<20)
	for i := range keep {
		keep[i] = i % 1000
	}
	wantAt(t, d, api.MaxOps, api.Crash{Keep: keep, Torn: api.MaxOps - 1, Bytes: 2}, joined(full(998&255), []byte{255, 255}, full(999 & 255)[2:]))
}
