package wal_test

import (
	"bytes"
	"math/rand"
	"testing"

	"larder/api"
	"larder/wal"
)

// wantRead lays a stream into sectors of a life, in pieces of that size, and asks Scan for what must be read of it.
func wantRead(t *testing.T, name string, stream []byte, piece, lsn int, records [][]byte) {
	t.Helper()
	var image []byte
	count := 0
	for at := 0; at < len(stream); at += piece {
		image = append(image, slowSector(9, count, stream[at:min(at+piece, len(stream))])...)
		count++
	}
	d := newDisk(t, image, count+2)
	list, n, e := wal.Scan(d, 0, count+2, 9, lsn)
	if !sameLists(list, records) || n != count || e != api.OK {
		t.Errorf("%s, in pieces of %d: %.200q, %d, %d; want %.200q, %d", name, piece, list, n, e, records, count)
	}
	slow, slowN := slowScan(d.Image(), 0, count+2, 9, lsn)
	if !sameLists(slow, records) || slowN != count {
		t.Errorf("%s: the slow one reads %.200q, %d", name, slow, slowN)
	}
}

// wantReadInAnyPieces does so for pieces of many sizes.
func wantReadInAnyPieces(t *testing.T, name string, stream []byte, lsn int, records [][]byte) {
	t.Helper()
	for _, piece := range []int{1, 2, 3, 7, 50, 110, 111} {
		if len(stream) <= piece*2000 {
			wantRead(t, name, stream, piece, lsn, records)
		}
	}
}

func TestP10_10WhatEndsTheReading(t *testing.T) {
	good := texts("one", "two", "three")
	behind := joined(slowRecord(5, []byte("five")), slowRecord(6, []byte("six")))
	wide := bytes.Repeat([]byte{0xff}, 9)
	for name, fault := range map[string][]byte{
		"nothing":                    {},
		"number again":               slowRecord(3, []byte("p")),
		"number left out":            slowRecord(5, []byte("p")),
		"number 0":                   slowRecord(0, []byte("p")),
		"number + 128":               slowRecord(4+128, []byte("p")),
		"number + 2^63":              joined(slowNumber(4+1<<63), []byte("\x01p")),
		"number with a 0 behind":     []byte("\x84\x00\x01p"),
		"number with two 0 behind":   []byte("\x84\x80\x00\x01p"),
		"number of 65 bits":          joined([]byte{0x84}, bytes.Repeat([]byte{0x80}, 8), []byte("\x02\x01p")),
		"number of ones":             joined(wide, []byte("\x7f\x01p")),
		"number of too many bytes":   joined(wide, wide, []byte("\x01\x01p")),
		"length 0":                   []byte("\x04\x00"),
		"length with a 0 behind":     []byte("\x04\x81\x00p"),
		"length 0 in two bytes":      []byte("\x04\x80\x00p"),
		"length 4097":                joined([]byte{4}, slowNumber(4097), make([]byte, 4097)),
		"length 4097 and few bytes":  joined([]byte{4}, slowNumber(4097), []byte("p")),
		"length 65536 + 1":           joined([]byte{4}, slowNumber(65537), []byte("p")),
		"length 2^32 + 1":            joined([]byte{4}, slowNumber(1<<32+1), []byte("p")),
		"length 2^63":                joined([]byte{4}, slowNumber(1<<63), []byte("p")),
		"length 2^63 + 1":            joined([]byte{4}, slowNumber(1<<63+1), []byte("p")),
		"length 2^64 - 1":            joined([]byte{4}, slowNumber(1<<64-1), []byte("p")),
		"length of 65 bits":          joined([]byte{4}, wide, []byte("\x02p")),
		"length beyond all":          joined([]byte{4}, slowNumber(4096), []byte("p")),
		"zeros":                      make([]byte, 50),
		"bytes that are no number":   bytes.Repeat([]byte{0x80}, 50),
		"number with a long 0 chain": joined(bytes.Repeat([]byte{0x84}, 9), []byte{0}),
	} {
		for from := range 3 {
			var stream []byte
			for i := from; i < 3; i++ {
				stream = append(stream, slowRecord(i+1, good[i])...)
			}
			stream = append(stream, fault...)
			wantReadInAnyPieces(t, name, stream, from, good[from:])
			// What stands behind it is not told.
			wantReadInAnyPieces(t, name+", and records behind it", append(stream, behind...), from, good[from:])
		}
	}
}

// Every cut of a stream: a record that is cut off is none.
func TestP10_10CutOff(t *testing.T) {
	for _, lsn := range []int{0, 126, 16382, 1<<56 - 2, api.MaxLsn - 3} {
		records := [][]byte{[]byte("a"), bytes.Repeat([]byte{'b'}, 130), []byte("cc")}
		var stream []byte
		ends := []int{}
		for i, p := range records {
			stream = append(stream, slowRecord(lsn+1+i, p)...)
			ends = append(ends, len(stream))
		}
		for size := range len(stream) + 1 {
			whole := 0
			for whole < 3 && ends[whole] <= size {
				whole++
			}
			wantReadInAnyPieces(t, "a stream that is cut", stream[:size], lsn, records[:whole])
		}
	}
}

func TestP10_10LengthsAtTheirEnds(t *testing.T) {
	for _, size := range []int{1, 2, 127, 128, 129, 4095, 4096} {
		p := bytes.Repeat([]byte{1}, size)
		stream := joined(slowRecord(8, p), slowRecord(9, []byte("behind")))
		wantReadInAnyPieces(t, "a record", stream, 7, [][]byte{p, []byte("behind")})
		if size > 100 {
			// One byte fewer than it says stands there at the end.
			wantReadInAnyPieces(t, "a record cut by a byte", slowRecord(8, p)[:len(slowRecord(8, p))-1], 7, nil)
		}
	}
}

func TestP10_10TheFirstNumber(t *testing.T) {
	var stream []byte
	for lsn := 1; lsn <= 5; lsn++ {
		stream = append(stream, slowRecord(lsn, []byte{byte(lsn)})...)
	}
	for _, lsn := range []int{1, 2, 5, 127, 128, api.MaxLsn - 1, api.MaxLsn} {
		wantReadInAnyPieces(t, "another first number", stream, lsn, nil)
	}
	for _, lsn := range []int{0, 127, 128, 1 << 40, api.MaxLsn - 2} {
		stream := joined(slowRecord(lsn+1, []byte("first")), slowRecord(lsn+2, []byte("next")))
		wantReadInAnyPieces(t, "the first number", stream, lsn, texts("first", "next"))
	}
}

// Sectors of no used bytes are part of the stream.
func TestP10_10EmptySectors(t *testing.T) {
	record := slowRecord(1, []byte("record"))
	image := joined(slowSector(2, 0, nil), slowSector(2, 1, record[:3]), slowSector(2, 2, nil), slowSector(2, 3, record[3:]), slowSector(2, 4, nil))
	wantScan(t, newDisk(t, image, 8), 0, 8, 2, 0, texts("record"), 5)
	wantScan(t, newDisk(t, image, 8), 0, 5, 2, 0, texts("record"), 5)
	wantScan(t, newDisk(t, image, 8), 0, 4, 2, 0, texts("record"), 4)
	wantScan(t, newDisk(t, image, 8), 0, 3, 2, 0, nil, 3)
	wantScan(t, newDisk(t, image, 8), 0, 1, 2, 0, nil, 1)
}

// The stream ends at the first sector that Used does not take, whatever comes behind it.
func TestP10_10WhatEndsTheStream(t *testing.T) {
	sector := func(n int) []byte { return slowSector(2, n, slowRecord(n+1, []byte{byte(n)})) }
	long := sector(3)
	long[8] = 112
	headWrong, tailWrong := sector(3), sector(3)
	headWrong[7] ^= 0x80
	tailWrong[120] ^= 1
	for name, end := range map[string][]byte{
		"zeros":            make([]byte, 128),
		"an earlier life":  slowSector(1, 3, slowRecord(4, []byte{3})),
		"a later life":     slowSector(3, 3, slowRecord(4, []byte{3})),
		"another number":   slowSector(2, 4, slowRecord(4, []byte{3})),
		"the number ahead": slowSector(2, 2, slowRecord(4, []byte{3})),
		"112 used bytes":   long,
		"a wrong head":     headWrong,
		"a wrong tail":     tailWrong,
	} {
		image := joined(make([]byte, 128), sector(0), sector(1), sector(2), end, sector(4), sector(5))
		d := newDisk(t, image, 7)
		list, n, e := wal.Scan(d, 1, 6, 2, 0)
		if !sameLists(list, [][]byte{{0}, {1}, {2}}) || n != 3 || e != api.OK {
			t.Errorf("%s: %q, %d, %d", name, list, n, e)
		}
		// As many sectors as are asked for, and no more.
		wantScan(t, d, 1, 2, 2, 0, [][]byte{{0}, {1}}, 2)
		wantScan(t, d, 1, 3, 2, 0, [][]byte{{0}, {1}, {2}}, 3)
		wantScan(t, d, 2, 5, 2, 1, nil, 0)
	}
}

// All sectors of the greatest disk, each used to the last byte.
func TestP10_10TheGreatestLog(t *testing.T) {
	r := rand.New(rand.NewSource(110))
	var stream []byte
	var records [][]byte
	for len(stream) < 111*4096-5000 {
		p := randomBytes(r, 1+r.Intn(4096))
		records = append(records, p)
		stream = append(stream, slowRecord(len(records), p)...)
	}
	for len(stream) < 111*4096 {
		stream = append(stream, 0xff)
	}
	var image []byte
	for n, piece := range slowPieces(stream) {
		image = append(image, slowSector(api.MaxLife, n, piece)...)
	}
	wantScan(t, newDisk(t, image, 4096), 0, 4096, api.MaxLife, 0, records, 4096)
}

// randomStream is records with, now and then, something else among them.
func randomStream(r *rand.Rand, lsn int) []byte {
	var stream []byte
	for range r.Intn(12) {
		lsn++
		p := randomBytes(r, []int{1, 2, 3, 60, 127, 128, 200}[r.Intn(7)])
		switch r.Intn(30) {
		case 0:
			stream = append(stream, randomBytes(r, r.Intn(5))...)
		case 1:
			lsn += r.Intn(3) - 1
		case 2:
			p = nil
		case 3:
			stream = append(stream, slowRecord(lsn, p)[:r.Intn(len(p))]...)
		}
		stream = append(stream, slowRecord(lsn, p)...)
	}
	return stream
}

// randomSectors lays a stream into sectors in random pieces, spoils some, and lays others' between.
func randomSectors(r *rand.Rand, life int, stream []byte, sectors int) []byte {
	var image []byte
	for n := range sectors {
		size := min(len(stream), r.Intn(112))
		if r.Intn(3) == 0 {
			size = min(len(stream), 111)
		}
		s := slowSector(life, n, stream[:size])
		stream = stream[size:]
		switch r.Intn(60) {
		case 0:
			s[r.Intn(128)] ^= 1 << r.Intn(8)
		case 1:
			s = slowSector(life+r.Intn(3)-1, n+r.Intn(2), stream[:min(len(stream), 9)])
		case 2:
			s = randomBytes(r, 128)
		case 3:
			s[8] = byte(r.Intn(256))
		case 4:
			copy(s[9+size:120], randomBytes(r, 111-size))
		}
		image = append(image, s...)
	}
	return image
}

func TestP10_10SectorsThatHoldAnything(t *testing.T) {
	r := rand.New(rand.NewSource(1010))
	told := 0
	for range 20000 {
		lsn := []int{0, 125, 16380, 1<<56 - 3, api.MaxLsn - 4}[r.Intn(5)]
		life := 2 + r.Intn(300)
		from, sectors := r.Intn(3), 1+r.Intn(14)
		image := joined(randomBytes(r, 128*from), randomSectors(r, life, randomStream(r, lsn), sectors))
		d := newDisk(t, image, from+sectors+r.Intn(2))
		records, count := slowScan(image, from, sectors, life, lsn)
		wantScan(t, d, from, sectors, life, lsn, records, count)
		told += len(records)
		for _, other := range []int{life - 1, life + 1, 1} {
			records, count = slowScan(image, from, sectors, other, lsn)
			wantScan(t, d, from, sectors, other, lsn, records, count)
		}
		if d.Count() != 0 {
			t.Fatal("Scan has touched the disk")
		}
	}
	if told < 30000 {
		t.Errorf("only %d records were told", told)
	}
}
