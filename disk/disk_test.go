package disk_test

import (
	"bytes"
	"math"
	"math/rand"
	"slices"
	"testing"

	"larder/api"
	"larder/disk"
)

func TestP6_1NewTakesTheImage(t *testing.T) {
	for _, x := range []struct{ size, sectors int }{
		{0, 1}, {1, 1}, {127, 1}, {128, 1}, {0, 2}, {100, 2}, {128, 2}, {129, 2}, {255, 2}, {256, 2}, {700, 9},
		{0, api.MaxSectors}, {5, api.MaxSectors}, {api.MaxSectors*api.SectorBytes - 1, api.MaxSectors}, {api.MaxSectors * api.SectorBytes, api.MaxSectors},
	} {
		image := bytes.Repeat([]byte{'x'}, x.size)
		d := newDisk(t, image, x.sectors)
		want := joined(image, zeros(x.sectors*api.SectorBytes-x.size))
		if d.Sectors() != x.sectors {
			t.Errorf("Sectors: %d, want %d", d.Sectors(), x.sectors)
		}
		wantCounts(t, d, 0)
		wantImages(t, d, want, want)
		wantAt(t, d, 0, api.Crash{}, want)
		for n := range x.sectors {
			wantRead(t, d, n, want[n*api.SectorBytes:(n+1)*api.SectorBytes], api.OK)
		}
	}
}

func TestP6_1NewRefuses(t *testing.T) {
	most := api.MaxSectors * api.SectorBytes
	for _, x := range []struct {
		size, sectors int
		want          api.Errno
	}{
		{0, 0, api.ErrArg}, {0, -1, api.ErrArg}, {0, api.MaxSectors + 1, api.ErrArg},
		{0, math.MinInt, api.ErrArg}, {0, math.MaxInt, api.ErrArg}, {0, 1 << 57, api.ErrArg}, {0, 1<<57 + 1, api.ErrArg},
		{129, 1, api.ErrLong}, {257, 2, api.ErrLong}, {5000, 2, api.ErrLong}, {most + 1, api.MaxSectors, api.ErrLong},
		// Both apply: the sectors are named first.
		{1, 0, api.ErrArg}, {1, -1, api.ErrArg}, {most + api.SectorBytes + 1, api.MaxSectors + 1, api.ErrArg},
	} {
		if d, e := disk.New(zeros(x.size), x.sectors); d != nil || e != x.want {
			t.Errorf("New(%d bytes, %d): %v, %d; want %d", x.size, x.sectors, d, e, x.want)
		}
	}
}

func TestP6_2WriteIsSeen(t *testing.T) {
	d := newDisk(t, nil, 3)
	a, b, c, zero := full('a'), full('b'), full('c'), full(0)
	write(t, d, 0, a)
	wantImages(t, d, joined(a, zero, zero), joined(zero, zero, zero))
	write(t, d, 2, b)
	wantImages(t, d, joined(a, zero, b), joined(zero, zero, zero))
	write(t, d, 0, c)
	wantImages(t, d, joined(c, zero, b), joined(zero, zero, zero))
	wantCounts(t, d, 3, 0, 2, 0)
	flush(t, d)
	wantImages(t, d, joined(c, zero, b), joined(c, zero, b))
	wantCounts(t, d, 4)
	write(t, d, 2, zero)
	write(t, d, 1, a)
	wantImages(t, d, joined(c, a, zero), joined(c, zero, b))
	wantCounts(t, d, 6, 2, 1)
}

func TestP6_2WriteRefuses(t *testing.T) {
	for _, sectors := range []int{1, 2, api.MaxSectors} {
		d := newDisk(t, nil, sectors)
		for _, n := range []int{-1, sectors, sectors + 1, math.MinInt, math.MaxInt, 1 << 57, -1 << 57} {
			wantWrite(t, d, n, full('a'), api.ErrPlace)
			// Both apply: the place is named first.
			wantWrite(t, d, n, nil, api.ErrPlace)
			wantWrite(t, d, n, full('a')[1:], api.ErrPlace)
		}
		for _, size := range []int{0, 1, 127, 129, 256, 5000} {
			wantWrite(t, d, 0, zeros(size), api.ErrSector)
			wantWrite(t, d, sectors-1, zeros(size), api.ErrSector)
		}
		wantWrite(t, d, 0, nil, api.ErrSector)
		wantCounts(t, d, 0)
		wantImages(t, d, zeros(sectors*api.SectorBytes), zeros(sectors*api.SectorBytes))
		wantWrite(t, d, 0, full('a'), api.OK)
		wantWrite(t, d, sectors-1, full('b'), api.OK)
		wantRead(t, d, sectors-1, full('b'), api.OK)
	}
}

// A refused write must not undo what is there.
func TestP6_2WhatIsRefusedChangesNothing(t *testing.T) {
	d := newDisk(t, full('i'), 2)
	write(t, d, 1, full('a'))
	flush(t, d)
	write(t, d, 0, full('b'))
	wantWrite(t, d, 2, full('c'), api.ErrPlace)
	wantWrite(t, d, -1, full('c'), api.ErrPlace)
	wantWrite(t, d, 0, full('c')[:127], api.ErrSector)
	wantWrite(t, d, 1, append(full('c'), 'c'), api.ErrSector)
	wantCounts(t, d, 3, 0)
	wantImages(t, d, joined(full('b'), full('a')), joined(full('i'), full('a')))
}

func TestP6_2FlushWithNothingLoose(t *testing.T) {
	d := newDisk(t, full('i'), 1)
	for n := range 5 {
		wantCounts(t, d, n)
		flush(t, d)
		wantImages(t, d, full('i'), full('i'))
	}
	write(t, d, 0, full('a'))
	flush(t, d)
	flush(t, d)
	wantCounts(t, d, 8)
	wantImages(t, d, full('a'), full('a'))
	for n := range 9 {
		want := full('i')
		if n >= 7 {
			want = full('a')
		}
		wantAt(t, d, n, api.Crash{Torn: -1}, want)
	}
}

// fill does MaxOps operations: writes of numbered bytes to the sectors in turn, and, if every is above 0, a flush each so many.
func fill(t *testing.T, d *disk.Disk, every int) {
	t.Helper()
	for n := range api.MaxOps {
		if every > 0 && n%every == every-1 {
			flush(t, d)
		} else {
			write(t, d, n%d.Sectors(), full(byte(n)))
		}
	}
}

func TestP6_2MaxOps(t *testing.T) {
	for _, every := range []int{0, 1, 2, 1000, api.MaxOps} {
		d := newDisk(t, nil, 3)
		fill(t, d, every)
		image, durable, pending := d.Image(), d.Durable(), d.Pending()
		if every == 0 && len(pending) != api.MaxOps || every > 0 && len(pending) != api.MaxOps%every {
			t.Errorf("flushes each %d: %d loose writes", every, len(pending))
		}
		wantWrite(t, d, 0, full('x'), api.ErrFull)
		if e := d.Flush(); e != api.ErrFull {
			t.Errorf("one Flush more: %d", e)
		}
		// All apply: the place is named first, then the bytes.
		wantWrite(t, d, 3, nil, api.ErrPlace)
		wantWrite(t, d, -1, full('x'), api.ErrPlace)
		wantWrite(t, d, 2, nil, api.ErrSector)
		wantWrite(t, d, 2, full('x'), api.ErrFull)
		wantCounts(t, d, api.MaxOps, pending...)
		wantImages(t, d, image, durable)
		wantAt(t, d, api.MaxOps, api.Crash{Torn: -1}, durable)
		wantNoAt(t, d, api.MaxOps+1, api.Crash{})
	}
}

// A disk without a single flush loses all that was written to it, be it ever so much.
func TestP6_4MaxOpsWithoutAFlush(t *testing.T) {
	d := newDisk(t, full('i'), 2)
	fill(t, d, 0)
	wantImages(t, d, joined(full(254), full(255)), joined(full('i'), full(0)))
	var odd []int
	for n := 1; n < 1000; n += 2 {
		odd = append(odd, n)
	}
	wantAt(t, d, api.MaxOps, api.Crash{Keep: odd}, joined(full('i'), full(999&255)))
}

func TestP6_3ReadRefuses(t *testing.T) {
	for _, sectors := range []int{1, 2, api.MaxSectors} {
		d := newDisk(t, bytes.Repeat([]byte{'i'}, sectors*api.SectorBytes), sectors)
		for _, n := range []int{-1, sectors, sectors + 1, math.MinInt, math.MaxInt, 1 << 57, -1 << 57} {
			wantRead(t, d, n, nil, api.ErrPlace)
		}
		wantRead(t, d, 0, full('i'), api.OK)
		wantRead(t, d, sectors-1, full('i'), api.OK)
	}
}

func TestP6_3ReadSeesLooseWrites(t *testing.T) {
	d := newDisk(t, joined(full('i'), full('j')), 2)
	write(t, d, 1, full('a'))
	wantRead(t, d, 0, full('i'), api.OK)
	wantRead(t, d, 1, full('a'), api.OK)
	write(t, d, 1, full('b'))
	wantRead(t, d, 1, full('b'), api.OK)
	flush(t, d)
	wantRead(t, d, 1, full('b'), api.OK)
	write(t, d, 1, full('c'))
	wantRead(t, d, 1, full('c'), api.OK)
	wantRead(t, d, 0, full('i'), api.OK)
}

// What was asked must make no odds (rule R5), so all is asked behind each step.
func TestP6_2To6_4ManyDisks(t *testing.T) {
	r := rand.New(rand.NewSource(61))
	for range 300 {
		d, p := randomDisk(t, r, 0)
		for n := range 30 {
			loose := p.pending(n)
			var all []int
			for i := range loose {
				all = append(all, i)
			}
			seen := p.at(n, api.Crash{Keep: all})
			wantCounts(t, d, n, loose...)
			wantImages(t, d, seen, p.at(n, api.Crash{Torn: -1}))
			for i := range d.Sectors() {
				wantRead(t, d, i, seen[i*api.SectorBytes:(i+1)*api.SectorBytes], api.OK)
			}
			randomStep(t, r, d, p)
		}
	}
}

func TestP6_7ANilDisk(t *testing.T) {
	var d *disk.Disk
	for _, n := range []int{-1, 0, 1, math.MinInt, math.MaxInt} {
		for _, p := range [][]byte{nil, full('a'), full('a')[1:]} {
			if e := d.Write(n, p); e != api.OK {
				t.Errorf("Write: %d", e)
			}
		}
		wantRead(t, d, n, nil, api.OK)
		for _, c := range []api.Crash{{}, {Torn: -1}, {Keep: []int{0}, Bytes: 129}, {Bytes: -1}} {
			wantAt(t, d, n, c, nil)
		}
		wantChoices(t, "Choices of a nil Disk", d.Choices(n), nil)
	}
	if e := d.Flush(); e != api.OK {
		t.Errorf("Flush: %d", e)
	}
	if d.Sectors() != 0 {
		t.Errorf("Sectors: %d", d.Sectors())
	}
	wantCounts(t, d, 0)
	wantImages(t, d, nil, nil)
}

// Nobody but New makes a disk; one that nobody made must not panic for all that (rule R1).
func TestR1ADiskThatNobodyMade(t *testing.T) {
	d := new(disk.Disk)
	wantWrite(t, d, 0, full('a'), api.ErrPlace)
	wantRead(t, d, 0, nil, api.ErrPlace)
	flush(t, d)
	wantCounts(t, d, 1)
	wantImages(t, d, nil, nil)
	wantAt(t, d, 1, api.Crash{}, nil)
	wantChoices(t, "Choices", d.Choices(1), []api.Crash{{Torn: -1}})
}

func TestR3NilAndEmptyAreTheSame(t *testing.T) {
	for _, image := range [][]byte{nil, {}} {
		d := newDisk(t, image, 1)
		wantImages(t, d, full(0), full(0))
		wantWrite(t, d, 0, image, api.ErrSector)
		write(t, d, 0, full('a'))
		wantAt(t, d, 1, api.Crash{Torn: -1}, full(0))
		wantAt(t, d, 1, api.Crash{Keep: []int{}, Torn: -1}, full(0))
	}
}

// Two disks know nothing of one another (rule R5).
func TestR5DisksSideBySide(t *testing.T) {
	image := joined(full('i'), full('j'))
	one, two := newDisk(t, image, 2), newDisk(t, image, 2)
	write(t, one, 0, full('a'))
	flush(t, one)
	write(t, two, 1, full('b'))
	wantImages(t, one, joined(full('a'), full('j')), joined(full('a'), full('j')))
	wantImages(t, two, joined(full('i'), full('b')), image)
	wantCounts(t, one, 2)
	wantCounts(t, two, 1, 1)
	if !slices.Equal(one.Pending(), nil) {
		t.Errorf("Pending: %v", one.Pending())
	}
}
