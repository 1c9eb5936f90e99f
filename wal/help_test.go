package wal_test

import (
	"bytes"
	"encoding/binary"
	"math/rand"
	"testing"

	"larder/api"
	"larder/disk"
	"larder/wal"
)

const (
	greatest = int(^uint(0) >> 1)
	least    = -greatest - 1
)

func newDisk(t *testing.T, image []byte, sectors int) *disk.Disk {
	t.Helper()
	d, e := disk.New(image, sectors)
	if d == nil || e != api.OK {
		t.Fatalf("disk.New(%d bytes, %d): %d", len(image), sectors, e)
	}
	return d
}

func opened(t *testing.T, d *disk.Disk, from, sectors, life, lsn, buffers int) *wal.Log {
	t.Helper()
	l, e := wal.Open(d, from, sectors, life, lsn, buffers)
	if l == nil || e != api.OK {
		t.Fatalf("Open(%d, %d, %d, %d, %d): %v, %d", from, sectors, life, lsn, buffers, l, e)
	}
	return l
}

// fresh answers a log of life 1 in all sectors of a new disk, with that disk.
func fresh(t *testing.T, sectors, lsn int) (*wal.Log, *disk.Disk) {
	t.Helper()
	d := newDisk(t, nil, sectors)
	return opened(t, d, 0, sectors, 1, lsn, 4), d
}

func want[T comparable](t *testing.T, name string, got, want T) {
	t.Helper()
	if got != want {
		t.Errorf("%s: %v, want %v", name, got, want)
	}
}

// numbered gets the next number, with room for a record of n bytes.
func numbered(t *testing.T, l *wal.Log, n int) int {
	t.Helper()
	if e := l.Reserve(n); e != api.OK {
		t.Fatalf("Reserve(%d) of %d free sectors: %d", n, l.Free(), e)
	}
	lsn, e := l.Number()
	if e != api.OK {
		t.Fatalf("Number: %d", e)
	}
	return lsn
}

func laid(t *testing.T, l *wal.Log, buffer, lsn int, p []byte) {
	t.Helper()
	if e := l.Append(buffer, lsn, p); e != api.OK {
		t.Fatalf("Append(%d, %d, %d bytes): %d", buffer, lsn, len(p), e)
	}
}

// added reserves room for a record, numbers it and appends it.
func added(t *testing.T, l *wal.Log, p []byte) int {
	t.Helper()
	lsn := numbered(t, l, len(p))
	laid(t, l, 0, lsn, p)
	return lsn
}

func wantCollect(t *testing.T, l *wal.Log, count int, want api.Errno) {
	t.Helper()
	if n, e := l.Collect(); n != count || e != want {
		t.Errorf("Collect: %d, %d; want %d, %d", n, e, count, want)
	}
}

func wantWrite(t *testing.T, l *wal.Log, last bool, want api.Errno) {
	t.Helper()
	if b, e := l.Write(); b != last || e != want {
		t.Errorf("Write: %v, %d; want %v, %d", b, e, last, want)
	}
}

func wantBarrier(t *testing.T, l *wal.Log, want api.Errno) {
	t.Helper()
	if e := l.Barrier(); e != want {
		t.Errorf("Barrier: %d, want %d", e, want)
	}
}

// written writes a flush that was begun up to its last sector, and answers how many it had.
func written(t *testing.T, l *wal.Log) int {
	t.Helper()
	for n := 1; ; n++ {
		last, e := l.Write()
		if e != api.OK {
			t.Fatalf("Write number %d: %d", n, e)
		}
		if last {
			return n
		}
	}
}

// flushed makes durable what can be collected: so many records, in so many sectors.
func flushed(t *testing.T, l *wal.Log, count, sectors int) {
	t.Helper()
	wantCollect(t, l, count, api.OK)
	want(t, "sectors of the flush", written(t, l), sectors)
	wantBarrier(t, l, api.OK)
}

// figures are what a log tells of itself.
type figures struct{ given, durable, waiting, free, next int }

func figuresOf(l *wal.Log) figures {
	return figures{l.Given(), l.Durable(), l.Waiting(), l.Free(), l.Next()}
}

func wantFigures(t *testing.T, l *wal.Log, given, durable, waiting, free, next int) {
	t.Helper()
	want(t, "Given, Durable, Waiting, Free, Next", figuresOf(l), figures{given, durable, waiting, free, next})
}

func wantScan(t *testing.T, d *disk.Disk, from, sectors, life, lsn int, records [][]byte, count int) {
	t.Helper()
	list, n, e := wal.Scan(d, from, sectors, life, lsn)
	if !sameLists(list, records) || n != count || e != api.OK {
		t.Errorf("Scan(%d, %d, %d, %d): %.200q, %d, %d; want %.200q, %d", from, sectors, life, lsn, list, n, e, records, count)
	}
}

func sameLists(a, b [][]byte) bool {
	if len(a) != len(b) {
		return false
	}
	for i := range a {
		if !bytes.Equal(a[i], b[i]) {
			return false
		}
	}
	return true
}

func texts(list ...string) [][]byte {
	var l [][]byte
	for _, s := range list {
		l = append(l, []byte(s))
	}
	return l
}

func joined(pieces ...[]byte) []byte { return bytes.Join(pieces, nil) }

func randomBytes(r *rand.Rand, n int) []byte {
	b := make([]byte, n)
	r.Read(b)
	return b
}

// sectorOf answers sector n of an image.
func sectorOf(image []byte, n int) []byte {
	return image[n*api.SectorBytes : (n+1)*api.SectorBytes]
}

// slowNumber writes a number as section 1.2 says, by division.
func slowNumber(n uint64) []byte {
	if n < 128 {
		return []byte{byte(n)}
	}
	return append([]byte{byte(128 + n%128)}, slowNumber(n/128)...)
}

// slowRecord is a record as it stands in a stream.
func slowRecord(lsn int, p []byte) []byte {
	return joined(slowNumber(uint64(lsn)), slowNumber(uint64(len(p))), p)
}

// slowSector puts a log sector together from its parts.
func slowSector(life, n int, used []byte) []byte {
	var stamp [8]byte
	binary.LittleEndian.PutUint64(stamp[:], uint64(life)<<12|uint64(n))
	return joined(stamp[:], []byte{byte(len(used))}, used, make([]byte, 111-len(used)), stamp[:])
}

// slowPieces cuts bytes into sectors' loads.
func slowPieces(stream []byte) [][]byte {
	var l [][]byte
	for len(stream) > 111 {
		l = append(l, stream[:111])
		stream = stream[111:]
	}
	return append(l, stream)
}

// slowNeed counts sectors one by one.
func slowNeed(n int) int {
	if n < 1 || n > 4096 {
		return 0
	}
	sectors := 0
	for room := 0; room < n+11; room += 111 {
		sectors++
	}
	return sectors
}

// slowScan reads an image: it holds each place of the stream against what a next record would begin with there.
func slowScan(image []byte, from, sectors, life, lsn int) ([][]byte, int) {
	var stream []byte
	count := 0
	for ; count < sectors; count++ {
		s := sectorOf(image, from+count)
		used := int(s[8])
		if used > 111 || !bytes.Equal(s[:8], slowSector(life, count, nil)[:8]) || !bytes.Equal(s[120:], s[:8]) {
			break
		}
		stream = append(stream, s[9:9+used]...)
	}
	var list [][]byte
	for {
		lsn++
		head := slowNumber(uint64(lsn))
		if !bytes.HasPrefix(stream, head) {
			return list, count
		}
		stream = stream[len(head):]
		length, took := slowLength(stream)
		if took == 0 || len(stream) < took+length {
			return list, count
		}
		list = append(list, stream[took:took+length])
		stream = stream[took+length:]
	}
}

// slowLength reads a length of 1 to 4096 at the beginning of b; 0 and 0, if none stands there.
func slowLength(b []byte) (length, took int) {
	if len(b) > 0 && b[0] > 0 && b[0] < 128 {
		return int(b[0]), 1
	}
	if len(b) > 1 && b[0] >= 128 && b[1] > 0 && b[1] < 128 {
		length = int(b[0]) - 128 + 128*int(b[1])
		if length <= 4096 {
			return length, 2
		}
	}
	return 0, 0
}

// tired answers a disk of so many sectors that takes just so many operations more.
func tired(t *testing.T, sectors, left int) *disk.Disk {
	t.Helper()
	d := newDisk(t, nil, sectors)
	for d.Count() < api.MaxOps-left {
		if e := d.Flush(); e != api.OK {
			t.Fatalf("Flush: %d", e)
		}
	}
	return d
}
