package wal_test

import (
	"bytes"
	"testing"

	"larder/api"
	"larder/disk"
	"larder/wal"
)

// Rule R4: what is handed in is neither changed, spare room included, nor kept; answers share no memory.

// roomy answers a copy of p with spare room behind it, which is filled.
func roomy(p []byte) []byte {
	given := append(bytes.Clone(p), bytes.Repeat([]byte{0xee}, 300)...)
	return given[:len(p)]
}

// spoil writes over all of p, its spare room too.
func spoil(p []byte) {
	p = p[:cap(p)]
	for i := range p {
		p[i] = 'X'
	}
}

func wantUntouched(t *testing.T, name string, given, p []byte) {
	t.Helper()
	all := given[:cap(given)]
	if !bytes.Equal(given, p) || !bytes.Equal(all[len(p):len(p)+300], bytes.Repeat([]byte{0xee}, 300)) {
		t.Errorf("%s: what was handed in has changed", name)
	}
}

func TestR4SectorAndUsed(t *testing.T) {
	for _, size := range []int{0, 1, 50, 110, 111} {
		p := bytes.Repeat([]byte{'p'}, size)
		given := roomy(p)
		s, _ := wal.Sector(1, 2, given)
		again, _ := wal.Sector(1, 2, given)
		wantUntouched(t, "Sector", given, p)
		spoil(given)
		if !bytes.Equal(s, slowSector(1, 2, p)) {
			t.Error("Sector: the answer hangs on what was handed in")
		}
		_ = append(s, 'l')
		spoil(s)
		if !bytes.Equal(again, slowSector(1, 2, p)) {
			t.Error("Sector: two answers share memory")
		}

		given = roomy(again)
		used, _ := wal.Used(1, 2, given)
		more, _ := wal.Used(1, 2, given)
		wantUntouched(t, "Used", given, again)
		_ = append(used, 'l')
		spoil(used)
		wantUntouched(t, "Used", given, again)
		spoil(given)
		if !bytes.Equal(more, p) {
			t.Error("Used: the answer shares memory")
		}
	}
	given := roomy(make([]byte, 112))
	wal.Sector(1, 2, given)
	wal.Used(1, 2, given)
	wantUntouched(t, "what is refused", given, make([]byte, 112))
}

func TestR4AppendKeepsNothing(t *testing.T) {
	l, d := fresh(t, 60, 0)
	var records [][]byte
	for i, size := range []int{1, 50, 111, 128, 700} {
		p := bytes.Repeat([]byte{byte('a' + i)}, size)
		records = append(records, p)
		given := roomy(p)
		lsn := numbered(t, l, size)
		want(t, "Append that is refused", l.Append(-1, lsn, given), api.ErrBuffer)
		laid(t, l, 0, lsn, given)
		wantUntouched(t, "Append", given, p)
		// Ahead of a Collect, within a flush and behind it.
		spoil(given)
		if i%2 == 1 {
			wantCollect(t, l, 2, api.OK)
			spoil(given)
			written(t, l)
			wantBarrier(t, l, api.OK)
		}
	}
	wantCollect(t, l, 1, api.OK)
	written(t, l)
	wantBarrier(t, l, api.OK)
	wantScan(t, d, 0, 60, 1, 0, records, l.Next())
}

// scanned is a disk with records on it, each filled with its own letter.
func scanned(t *testing.T) (*disk.Disk, [][]byte) {
	t.Helper()
	l, d := fresh(t, 60, 0)
	var records [][]byte
	for i, size := range []int{1, 2, 1, 108, 111, 128, 700, 3, 3} {
		p := bytes.Repeat([]byte{byte('a' + i)}, size)
		records = append(records, p)
		added(t, l, p)
	}
	wantCollect(t, l, len(records), api.OK)
	written(t, l)
	wantBarrier(t, l, api.OK)
	return d, records
}

func TestR4ScanAnswersNewMemory(t *testing.T) {
	d, records := scanned(t)
	image := d.Image()
	list, _, _ := wal.Scan(d, 0, 60, 1, 0)
	other, count, _ := wal.Scan(d, 0, 60, 1, 0)
	for i := range list {
		if !bytes.Equal(list[i], records[i]) {
			t.Errorf("record %d: %q", i, list[i])
		}
		// What is laid behind one, or written into it, shows in no other.
		_ = append(list[i], "laid behind"...)
		spoil(list[i])
	}
	for i := range list[:cap(list)] {
		list[:cap(list)][i] = nil
	}
	if !sameLists(other, records) {
		t.Error("Scan: two answers share memory")
	}
	if !bytes.Equal(d.Image(), image) {
		t.Error("Scan: an answer shares memory with the disk")
	}
	wantScan(t, d, 0, 60, 1, 0, records, count)
	// Nor does an answer change with the disk.
	for n := range 60 {
		d.Write(n, bytes.Repeat([]byte{'D'}, 128))
	}
	if !sameLists(other, records) {
		t.Error("Scan: an answer hangs on the disk")
	}
}

// What the disk holds of a log is the disk's own.
func TestR4TheDisksBytes(t *testing.T) {
	l, d := fresh(t, 60, 0)
	added(t, l, bytes.Repeat([]byte{'a'}, 300))
	wantCollect(t, l, 1, api.OK)
	wantWrite(t, l, false, api.OK)
	s, _ := d.Read(0)
	spoil(s)
	spoil(d.Image())
	wantWrite(t, l, false, api.OK)
	wantWrite(t, l, true, api.OK)
	wantBarrier(t, l, api.OK)
	wantScan(t, d, 0, 60, 1, 0, [][]byte{bytes.Repeat([]byte{'a'}, 300)}, 3)
}

// Rule R5: logs beside one another, on one disk and on two, answer as each alone.
func TestR5LogsSideBySide(t *testing.T) {
	d, e := newDisk(t, nil, 20), newDisk(t, nil, 20)
	left, right, other := opened(t, d, 0, 10, 1, 0, 1), opened(t, d, 10, 10, 1, 50, 1), opened(t, e, 0, 10, 1, 0, 1)
	for i, l := range []*wal.Log{left, right, other} {
		added(t, l, []byte{byte(i)})
		wantFigures(t, l, l.Given(), l.Given()-1, 1, 9, 0)
	}
	wantCollect(t, left, 1, api.OK)
	wantCollect(t, right, 1, api.OK)
	wantWrite(t, right, true, api.OK)
	wantBarrier(t, left, api.ErrBusy)
	wantBarrier(t, other, api.ErrNone)
	wantWrite(t, left, true, api.OK)
	wantBarrier(t, left, api.OK)
	wantFigures(t, right, 51, 50, 0, 9, 1)
	wantBarrier(t, right, api.OK)
	flushed(t, other, 1, 1)
	wantScan(t, d, 0, 10, 1, 0, [][]byte{{0}}, 1)
	wantScan(t, d, 10, 10, 1, 50, [][]byte{{1}}, 1)
	wantScan(t, e, 0, 10, 1, 0, [][]byte{{2}}, 1)
}
