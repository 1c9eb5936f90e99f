package disk_test

import (
	"bytes"
	"math/rand"
	"slices"
	"testing"

	"larder/api"
)

func TestP6_8AllKeptIsImageNoneIsDurable(t *testing.T) {
	r := rand.New(rand.NewSource(81))
	for range 300 {
		d, _ := randomDisk(t, r, r.Intn(30))
		var all []int
		for i := range d.Pending() {
			all = append(all, i)
		}
		torn, size := r.Intn(len(all)+4)-2, r.Intn(api.SectorBytes+1)
		wantAt(t, d, d.Count(), api.Crash{Keep: all, Torn: torn, Bytes: size}, d.Image())
		wantAt(t, d, d.Count(), api.Crash{Torn: -1}, d.Durable())
		wantAt(t, d, d.Count(), api.Crash{Torn: len(all), Bytes: size}, d.Durable())
	}
}

func TestP6_8BehindAFlushAllIsTheSame(t *testing.T) {
	r := rand.New(rand.NewSource(82))
	for range 300 {
		d, _ := randomDisk(t, r, r.Intn(30))
		seen := d.Image()
		flush(t, d)
		wantImages(t, d, seen, seen)
		for range 10 {
			wantAt(t, d, d.Count(), randomCrash(r, 5), seen)
		}
	}
}

func TestP6_8SectorsWithoutALooseWriteAreDurable(t *testing.T) {
	r := rand.New(rand.NewSource(83))
	held := 0
	for range 300 {
		d, p := randomDisk(t, r, r.Intn(30))
		for n := range d.Count() + 1 {
			loose := p.pending(n)
			durable, _ := d.At(n, api.Crash{Torn: -1})
			left, e := d.At(n, randomCrash(r, len(loose)))
			if e != api.OK {
				t.Fatalf("At: %d", e)
			}
			for s := range d.Sectors() {
				from, to := s*api.SectorBytes, (s+1)*api.SectorBytes
				if slices.Contains(loose, s) {
					continue
				}
				held++
				if !bytes.Equal(left[from:to], durable[from:to]) {
					t.Fatalf("sector %d has changed", s)
				}
			}
		}
	}
	if held < 1000 {
		t.Errorf("only %d sectors", held)
	}
}

func TestP6_8ADiskMadeOfWhatIsLeft(t *testing.T) {
	r := rand.New(rand.NewSource(84))
	for range 200 {
		d, p := randomDisk(t, r, r.Intn(30))
		n := r.Intn(d.Count() + 1)
		left, _ := d.At(n, randomCrash(r, len(p.pending(n))))
		again := newDisk(t, left, d.Sectors())
		wantCounts(t, again, 0)
		wantImages(t, again, left, left)
		for s := range again.Sectors() {
			wantRead(t, again, s, left[s*api.SectorBytes:(s+1)*api.SectorBytes], api.OK)
		}
	}
}

// told is what At answered once.
type told struct {
	n    int
	c    api.Crash
	want []byte
}

func TestP6_9WhatHasHappenedIsNotTurned(t *testing.T) {
	r := rand.New(rand.NewSource(91))
	for range 100 {
		d, p := randomDisk(t, r, 0)
		var all []told
		for n := range 25 {
			for range 3 {
				c := randomCrash(r, len(p.pending(n)))
				left, e := d.At(n, c)
				if e != api.OK {
					t.Fatalf("At(%d, %v): %d", n, c, e)
				}
				all = append(all, told{n, c, left})
			}
			randomStep(t, r, d, p)
		}
		for _, x := range all {
			wantAt(t, d, x.n, x.c, x.want)
		}
	}
}

// The same up to MaxOps, and with calls that are refused there.
func TestP6_9WhatHasHappenedIsNotTurnedByVeryMuch(t *testing.T) {
	d := newDisk(t, full('i'), 2)
	write(t, d, 0, full('a'))
	write(t, d, 1, full('b'))
	before := [][]byte{}
	for c := range d.Choices(2) {
		p, _ := d.At(2, c)
		before = append(before, p)
	}
	for d.Write(0, full('x')) == api.OK && d.Write(1, full('y')) == api.OK && d.Flush() == api.OK {
	}
	if d.Count() != api.MaxOps {
		t.Errorf("Count: %d", d.Count())
	}
	d.Flush()
	i := 0
	for c := range d.Choices(2) {
		wantAt(t, d, 2, c, before[i])
		i++
	}
	if i != 8 || len(before) != 8 {
		t.Errorf("%d choices", i)
	}
}
