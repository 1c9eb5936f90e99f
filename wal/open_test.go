package wal_test

import (
	"bytes"
	"testing"

	"larder/api"
	"larder/disk"
	"larder/wal"
)

// place is what Open and Scan are asked for beside a disk.
type place struct{ from, sectors, life, lsn, buffers int }

// wantPlace asks Open and Scan of a disk, and says whether they must take it; buffers are Open's alone.
func wantPlace(t *testing.T, d *disk.Disk, p place, good bool) {
	t.Helper()
	count := d.Count()
	image := d.Image()
	l, e := wal.Open(d, p.from, p.sectors, p.life, p.lsn, p.buffers)
	if good != (e == api.OK) || good != (l != nil) || !good && e != api.ErrArg {
		t.Errorf("Open(%+v): %v, %d", p, l, e)
	}
	if good {
		wantFigures(t, l, p.lsn, p.lsn, 0, p.sectors, 0)
	}
	if d.Count() != count || !bytes.Equal(d.Image(), image) {
		t.Errorf("Open(%+v) has touched the disk", p)
	}
	if p.buffers < 1 || p.buffers > api.MaxStripes {
		return
	}
	list, n, e := wal.Scan(d, p.from, p.sectors, p.life, p.lsn)
	if len(list) != 0 || n != 0 || good != (e == api.OK) || !good && e != api.ErrArg {
		t.Errorf("Scan(%+v): %q, %d, %d", p, list, n, e)
	}
	if d.Count() != count || !bytes.Equal(d.Image(), image) {
		t.Errorf("Scan(%+v) has touched the disk", p)
	}
}

func TestP10_3Sectors(t *testing.T) {
	d := newDisk(t, nil, 8)
	for from := -2; from <= 10; from++ {
		for sectors := -2; sectors <= 10; sectors++ {
			good := from >= 0 && sectors >= 1 && from+sectors <= 8
			wantPlace(t, d, place{from, sectors, 1, 0, 1}, good)
		}
	}
	whole := newDisk(t, nil, api.MaxSectors)
	wantPlace(t, whole, place{0, api.MaxSectors, 1, 0, 1}, true)
	wantPlace(t, whole, place{api.MaxSectors - 1, 1, 1, 0, 1}, true)
	wantPlace(t, whole, place{1, api.MaxSectors, 1, 0, 1}, false)
	wantPlace(t, whole, place{0, api.MaxSectors + 1, 1, 0, 1}, false)
	wantPlace(t, whole, place{api.MaxSectors, 1, 1, 0, 1}, false)
}

// from + sectors runs over the greatest int.
func TestP10_3SumsThatRunOver(t *testing.T) {
	d := newDisk(t, nil, 8)
	far := []int{least, least + 1, least + 8, -greatest + 8, -8, -1, 0, 1, 7, 8, 9, 1 << 62, greatest - 8, greatest - 7, greatest - 1, greatest}
	for _, from := range far {
		for _, sectors := range far {
			good := from == 0 && sectors == 8 || (from == 0 || from == 1) && sectors == 7 || (from == 0 || from == 1 || from == 7) && sectors == 1
			wantPlace(t, d, place{from, sectors, 1, 0, 1}, good)
		}
	}
}

func TestP10_3LifeLsnBuffers(t *testing.T) {
	d := newDisk(t, nil, 8)
	for _, life := range goodLives {
		wantPlace(t, d, place{2, 6, life, 0, 4}, true)
	}
	for _, life := range badLives {
		wantPlace(t, d, place{2, 6, life, 0, 4}, false)
	}
	for _, lsn := range []int{0, 1, 127, 128, 1 << 56, api.MaxLsn - 1, api.MaxLsn} {
		wantPlace(t, d, place{2, 6, 1, lsn, 4}, true)
	}
	for _, lsn := range []int{least, -api.MaxLsn, -1, api.MaxLsn + 1, greatest} {
		wantPlace(t, d, place{2, 6, 1, lsn, 4}, false)
	}
	for buffers := -3; buffers <= api.MaxStripes+3; buffers++ {
		wantPlace(t, d, place{2, 6, 1, 0, buffers}, buffers >= 1 && buffers <= api.MaxStripes)
	}
	for _, buffers := range []int{least, -api.MaxStripes, greatest} {
		wantPlace(t, d, place{2, 6, 1, 0, buffers}, false)
	}
}

func TestP10_3NoDisk(t *testing.T) {
	for _, d := range []*disk.Disk{nil, {}} {
		for _, p := range []place{{0, 1, 1, 0, 1}, {0, 0, 1, 0, 1}, {-1, 1, 1, 0, 1}, {greatest, greatest, 1, 0, 1}, {0, -1, 0, -1, 0}} {
			wantPlace(t, d, p, false)
		}
	}
}

// What stands on a disk has no part in how a log begins, nor is it touched.
func TestP10_3AnyDisk(t *testing.T) {
	image := joined(slowSector(1, 0, slowRecord(1, []byte("old"))), slowSector(1, 1, slowRecord(2, []byte("older"))))
	d := newDisk(t, image, 4)
	l := opened(t, d, 0, 4, 1, 0, 1)
	wantFigures(t, l, 0, 0, 0, 4, 0)
	if d.Count() != 0 || !bytes.Equal(d.Image()[:256], image) {
		t.Error("Open has touched the disk")
	}
}
