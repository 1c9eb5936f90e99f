package wal_test

import (
	"bytes"
	"testing"

	"larder/api"
	"larder/wal"
)

func TestP10_4ReserveUpToTheLastSector(t *testing.T) {
	for n := 1; n <= api.MaxRecord; n++ {
		need := slowNeed(n)
		d := newDisk(t, nil, need+1)
		just := opened(t, d, 0, need, 1, 0, 1)
		want(t, "Reserve of just as many as are free", just.Reserve(n), api.OK)
		wantFigures(t, just, 0, 0, 0, 0, 0)
		more := opened(t, d, 0, need+1, 1, 0, 1)
		want(t, "Reserve of one fewer than are free", more.Reserve(n), api.OK)
		wantFigures(t, more, 0, 0, 0, 1, 0)
		if need > 1 {
			fewer := opened(t, d, 0, need-1, 1, 0, 1)
			want(t, "Reserve of one more than are free", fewer.Reserve(n), api.ErrFull)
			wantFigures(t, fewer, 0, 0, 0, need-1, 0)
		}
	}
}

func TestP10_4ReserveOfNoRecord(t *testing.T) {
	l, _ := fresh(t, 1, 0)
	bad := []int{least, -1, 0, api.MaxRecord + 1, greatest}
	for _, n := range bad {
		want(t, "Reserve of no record", l.Reserve(n), api.ErrArg)
		wantFigures(t, l, 0, 0, 0, 1, 0)
	}
	want(t, "Reserve(100)", l.Reserve(100), api.OK)
	for _, n := range bad {
		want(t, "Reserve of no record, with nothing free", l.Reserve(n), api.ErrArg)
	}
	for _, n := range []int{1, 100, 101, api.MaxRecord} {
		want(t, "Reserve with nothing free", l.Reserve(n), api.ErrFull)
	}
	wantFigures(t, l, 0, 0, 0, 0, 0)
}

// What is reserved stays so: neither a flush nor its end gives sectors back.
func TestP10_4WhatIsReservedIsFreeNoMore(t *testing.T) {
	l, _ := fresh(t, 10, 0)
	for range 4 {
		added(t, l, []byte("r"))
	}
	want(t, "Free", l.Free(), 6)
	flushed(t, l, 4, 1)
	wantFigures(t, l, 4, 4, 0, 6, 1)
	want(t, "Reserve(600)", l.Reserve(600), api.OK)
	want(t, "Reserve(1)", l.Reserve(1), api.ErrFull)
	wantFigures(t, l, 4, 4, 0, 0, 1)
}

func TestP10_4Number(t *testing.T) {
	for _, lsn := range []int{0, 1, 126, 127, 1 << 40, api.MaxLsn - 5} {
		l, _ := fresh(t, 1, lsn)
		for i := 1; i <= 5; i++ {
			if n, e := l.Number(); n != lsn+i || e != api.OK {
				t.Errorf("Number: %d, %d; want %d", n, e, lsn+i)
			}
			wantFigures(t, l, lsn+i, lsn, 0, 1, 0)
		}
	}
}

func TestP10_4NumbersEnd(t *testing.T) {
	for ahead := range 4 {
		l, d := fresh(t, 8, api.MaxLsn-ahead)
		var records [][]byte
		for range ahead {
			p := []byte{byte(len(records)), 'p'}
			added(t, l, p)
			records = append(records, p)
		}
		for range 3 {
			if n, e := l.Number(); n != 0 || e != api.ErrEnd {
				t.Errorf("Number behind MaxLsn: %d, %d", n, e)
			}
			want(t, "Given", l.Given(), api.MaxLsn)
		}
		want(t, "Append behind MaxLsn", l.Append(0, api.MaxLsn+1, []byte("p")), api.ErrLsn)
		if ahead > 0 {
			flushed(t, l, ahead, 1)
		}
		wantFigures(t, l, api.MaxLsn, api.MaxLsn, 0, 8-ahead, l.Next())
		wantScan(t, d, 0, 8, 1, api.MaxLsn-ahead, records, l.Next())
		wantCollect(t, l, 0, api.OK)
	}
}

func TestP10_5LengthsOfRecords(t *testing.T) {
	for _, n := range []int{1, 2, 100, 101, 211, 212, 4095, 4096} {
		l, d := fresh(t, 37, 0)
		p := bytes.Repeat([]byte{0xff}, n)
		lsn := numbered(t, l, n)
		want(t, "Append", l.Append(0, lsn, p), api.OK)
		want(t, "Waiting", l.Waiting(), 1)
		wantCollect(t, l, 1, api.OK)
		sectors := written(t, l)
		wantBarrier(t, l, api.OK)
		want(t, "sectors", sectors, len(slowPieces(slowRecord(lsn, p))))
		wantScan(t, d, 0, 37, 1, 0, [][]byte{p}, sectors)
	}
	l, _ := fresh(t, 37, 0)
	lsn := numbered(t, l, 4096)
	for _, p := range [][]byte{nil, {}, make([]byte, 0, 9), make([]byte, 4097), make([]byte, 70000)} {
		want(t, "Append of no record", l.Append(0, lsn, p), api.ErrRecord)
		wantFigures(t, l, 1, 0, 0, 0, 0)
	}
	laid(t, l, 0, lsn, make([]byte, 4096))
}

func TestP10_5Buffers(t *testing.T) {
	d := newDisk(t, nil, 200)
	for _, buffers := range []int{1, 2, 5, api.MaxStripes} {
		l := opened(t, d, 0, 200, 1, 0, buffers)
		for _, b := range []int{least, -1, buffers, buffers + 1, api.MaxStripes, greatest} {
			lsn := numbered(t, l, 1)
			want(t, "Append to no buffer", l.Append(b, lsn, []byte("p")), api.ErrBuffer)
			want(t, "Waiting", l.Waiting(), lsn-1)
			laid(t, l, buffers-1, lsn, []byte("p"))
		}
		for b := range buffers {
			laid(t, l, b, numbered(t, l, 1), []byte("p"))
		}
		wantCollect(t, l, 6+buffers, api.OK)
	}
}

// wantNoLsn asks for ErrLsn, and that nothing has changed.
func wantNoLsn(t *testing.T, l *wal.Log, numbers ...int) {
	t.Helper()
	for _, lsn := range numbers {
		before := figuresOf(l)
		if e := l.Append(0, lsn, []byte("x")); e != api.ErrLsn {
			t.Errorf("Append(0, %d): %d, want ErrLsn", lsn, e)
		}
		want(t, "figures", figuresOf(l), before)
	}
}

func TestP10_5NumbersThatMayNotBe(t *testing.T) {
	never := []int{least, -1, 0, 9, 10, 12, 1 << 40, api.MaxLsn, api.MaxLsn + 1, greatest}
	l, d := fresh(t, 9, 10)
	want(t, "Reserve", l.Reserve(300), api.OK)
	wantNoLsn(t, l, append(never, 11)...)
	l.Number()
	wantNoLsn(t, l, never...)
	laid(t, l, 0, 11, []byte("eleven"))
	wantNoLsn(t, l, append(never, 11)...)
	// Of two that were given the first has a record; of three the second has none.
	l.Number()
	l.Number()
	laid(t, l, 1, 13, []byte("thirteen"))
	wantNoLsn(t, l, least, -1, 0, 10, 11, 13, 14, greatest)
	wantCollect(t, l, 1, api.OK)
	wantNoLsn(t, l, least, -1, 0, 10, 11, 13, 14, greatest)
	wantWrite(t, l, true, api.OK)
	wantNoLsn(t, l, 10, 11, 13, 14)
	wantBarrier(t, l, api.OK)
	wantNoLsn(t, l, 10, 11, 13, 14)
	want(t, "Reserve", l.Reserve(1), api.OK)
	laid(t, l, 0, 12, []byte("twelve"))
	wantNoLsn(t, l, 10, 11, 12, 13, 14)
	flushed(t, l, 2, 1)
	wantNoLsn(t, l, 10, 11, 12, 13, 14)
	wantScan(t, d, 0, 9, 1, 10, texts("eleven", "twelve", "thirteen"), 2)
}

func TestP10_5Room(t *testing.T) {
	for n := 1; n <= api.MaxRecord; n += 5 {
		l, _ := fresh(t, 80, 0)
		lsn, _ := l.Number()
		want(t, "Append with nothing reserved", l.Append(0, lsn, make([]byte, n)), api.ErrRoom)
		for range slowNeed(n) - 1 {
			l.Reserve(1)
		}
		want(t, "Append with one sector fewer", l.Append(0, lsn, make([]byte, n)), api.ErrRoom)
		wantFigures(t, l, 1, 0, 0, 81-slowNeed(n), 0)
		l.Reserve(1)
		want(t, "Append with just as many", l.Append(0, lsn, make([]byte, n)), api.OK)
		wantFigures(t, l, 1, 0, 1, 80-slowNeed(n), 0)
		// They are the record's now.
		lsn, _ = l.Number()
		want(t, "Append with nothing reserved any more", l.Append(0, lsn, []byte("p")), api.ErrRoom)
	}
}

// What a shorter record leaves of what was reserved stays reserved, for any other.
func TestP10_5RoomThatIsLeft(t *testing.T) {
	l, _ := fresh(t, 6, 0)
	l.Reserve(600)
	for i := range 6 {
		lsn, _ := l.Number()
		laid(t, l, 0, lsn, []byte{byte(i)})
	}
	lsn, _ := l.Number()
	want(t, "Append number 7", l.Append(0, lsn, []byte("p")), api.ErrRoom)
	wantFigures(t, l, 7, 0, 6, 0, 0)
}

// Each of Append's faults beside each other one: the first is told.
func TestP10_5FirstOfSeveral(t *testing.T) {
	l, _ := fresh(t, 40, 0)
	lsn := numbered(t, l, 1)
	had := added(t, l, []byte("had"))
	type fault struct {
		buffer, lsn, size int
		want              api.Errno
	}
	for _, buffer := range []int{-1, 0, 3, 4, least, greatest} {
		for _, number := range []int{lsn, had, 0, -1, 3, greatest} {
			for _, size := range []int{0, 1, 100, 101, 4096, 4097} {
				f := fault{buffer, number, size, api.OK}
				switch {
				case buffer < 0 || buffer > 3:
					f.want = api.ErrBuffer
				case number != lsn:
					f.want = api.ErrLsn
				case size == 0 || size == 4097:
					f.want = api.ErrRecord
				case size > 100:
					f.want = api.ErrRoom
				default:
					continue
				}
				if e := l.Append(f.buffer, f.lsn, make([]byte, f.size)); e != f.want {
					t.Errorf("Append %+v: %d", f, e)
				}
				wantFigures(t, l, 2, 0, 1, 38, 0)
			}
		}
	}
	laid(t, l, 0, lsn, []byte("still"))
}

func TestP10_6Collect(t *testing.T) {
	l, d := fresh(t, 20, 0)
	wantCollect(t, l, 0, api.OK)
	for range 6 {
		numbered(t, l, 5)
	}
	wantCollect(t, l, 0, api.OK)
	for _, lsn := range []int{2, 3, 6, 5} {
		laid(t, l, lsn%4, lsn, []byte{byte(lsn)})
		wantCollect(t, l, 0, api.OK)
	}
	// A Collect of nothing begins no flush.
	wantWrite(t, l, false, api.ErrNone)
	wantBarrier(t, l, api.ErrNone)
	wantFigures(t, l, 6, 0, 4, 14, 0)
	laid(t, l, 1, 1, []byte{1})
	wantCollect(t, l, 3, api.OK)
	wantFigures(t, l, 6, 0, 2, 14, 0)
	written(t, l)
	wantBarrier(t, l, api.OK)
	wantFigures(t, l, 6, 3, 2, 14, 1)
	wantCollect(t, l, 0, api.OK)
	laid(t, l, 0, 4, []byte{4})
	flushed(t, l, 3, 1)
	wantFigures(t, l, 6, 6, 0, 14, 2)
	wantScan(t, d, 0, 20, 1, 0, [][]byte{{1}, {2}, {3}, {4}, {5}, {6}}, 2)
}

func TestP10_6WhileAFlushIsUnderWay(t *testing.T) {
	l, d := fresh(t, 20, 0)
	added(t, l, bytes.Repeat([]byte{'a'}, 300))
	wantCollect(t, l, 1, api.OK)
	busy := func() {
		t.Helper()
		before := figuresOf(l)
		wantCollect(t, l, 0, api.ErrBusy)
		want(t, "figures", figuresOf(l), before)
	}
	busy()
	wantWrite(t, l, false, api.OK)
	busy()
	// What comes meanwhile waits.
	added(t, l, []byte("meanwhile"))
	want(t, "Waiting", l.Waiting(), 1)
	busy()
	wantWrite(t, l, false, api.OK)
	wantWrite(t, l, true, api.OK)
	busy()
	wantBarrier(t, l, api.OK)
	want(t, "Durable", l.Durable(), 1)
	flushed(t, l, 1, 1)
	wantScan(t, d, 0, 20, 1, 0, [][]byte{bytes.Repeat([]byte{'a'}, 300), []byte("meanwhile")}, 4)
}

func TestP10_7WriteAndBarrier(t *testing.T) {
	l, d := fresh(t, 20, 0)
	none := func() {
		t.Helper()
		before := figuresOf(l)
		wantWrite(t, l, false, api.ErrNone)
		wantBarrier(t, l, api.ErrNone)
		want(t, "figures", figuresOf(l), before)
	}
	none()
	p := bytes.Repeat([]byte("0123456789"), 30)
	added(t, l, p)
	none()
	wantCollect(t, l, 1, api.OK)
	want(t, "operations", d.Count(), 0)
	for i, piece := range slowPieces(slowRecord(1, p)) {
		wantFigures(t, l, 1, 0, 0, 17, i)
		wantBarrier(t, l, api.ErrBusy)
		wantWrite(t, l, i == 2, api.OK)
		want(t, "operations", d.Count(), i+1)
		if s, _ := d.Read(i); !bytes.Equal(s, slowSector(1, i, piece)) {
			t.Errorf("sector %d: %x", i, s)
		}
	}
	wantWrite(t, l, false, api.ErrNone)
	wantFigures(t, l, 1, 0, 0, 17, 3)
	want(t, "loose writes", len(d.Pending()), 3)
	wantBarrier(t, l, api.OK)
	wantFigures(t, l, 1, 1, 0, 17, 3)
	want(t, "loose writes", len(d.Pending()), 0)
	want(t, "operations", d.Count(), 4)
	none()
	want(t, "operations", d.Count(), 4)
}

// Each flush begins in a sector of its own.
func TestP10_7SectorsOfFlushes(t *testing.T) {
	d := newDisk(t, nil, 12)
	l := opened(t, d, 3, 8, 5, 300, 2)
	image := make([]byte, 12*128)
	next := 3
	for _, group := range [][]string{{"a"}, {"bb", "ccc"}, {string(make([]byte, 150))}, {"d"}} {
		var stream []byte
		for _, s := range group {
			lsn := added(t, l, []byte(s))
			stream = append(stream, slowRecord(lsn, []byte(s))...)
		}
		for _, piece := range slowPieces(stream) {
			copy(sectorOf(image, next), slowSector(5, next-3, piece))
			next++
		}
		wantCollect(t, l, len(group), api.OK)
		written(t, l)
		wantBarrier(t, l, api.OK)
		want(t, "Next", l.Next(), next-3)
		if !bytes.Equal(d.Image(), image) {
			t.Errorf("the disk: %x, want %x", d.Image(), image)
		}
	}
}

// A flush that fills its sector just up to the last byte, and one that has a byte more.
func TestP10_7FullSectors(t *testing.T) {
	for _, sectors := range []int{1, 2, 3, 5} {
		for over := -2; over <= 2; over++ {
			l, d := fresh(t, 40, 0)
			var records [][]byte
			// Three small records ahead of one that fills the sectors up.
			for _, s := range []string{"x", "yy", "zzz"} {
				records = append(records, []byte(s))
			}
			size := 111*sectors + over - (3 + 4 + 5) - 2
			if size >= 128 {
				size--
			}
			records = append(records, bytes.Repeat([]byte{'f'}, size))
			var stream []byte
			for _, p := range records {
				stream = append(stream, slowRecord(added(t, l, p), p)...)
			}
			want(t, "bytes of the stream", len(stream), 111*sectors+over)
			count := sectors
			if over > 0 {
				count++
			}
			flushed(t, l, 4, count)
			wantScan(t, d, 0, 40, 1, 0, records, count)
			// Behind a full sector, too, the next flush has its own.
			added(t, l, []byte("next"))
			flushed(t, l, 1, 1)
			wantScan(t, d, 0, 40, 1, 0, append(records, []byte("next")), count+1)
			if s, _ := d.Read(count); !bytes.Equal(s, slowSector(1, count, slowRecord(5, []byte("next")))) {
				t.Errorf("the next flush: %x", s)
			}
		}
	}
}

// The number, the length and the bytes of the second record lie over the end of a sector in each way.
func TestP10_7OverASectorsEnd(t *testing.T) {
	for _, lsn := range []int{0, 126, 127, 128, 16382, 16383, 1 << 56, api.MaxLsn - 2} {
		for size := 80; size <= 111; size++ {
			for _, second := range []int{1, 127, 128, 300} {
				l, d := fresh(t, 10, lsn)
				records := [][]byte{bytes.Repeat([]byte{'1'}, size), bytes.Repeat([]byte{0x80}, second)}
				var stream []byte
				for _, p := range records {
					stream = append(stream, slowRecord(added(t, l, p), p)...)
				}
				pieces := slowPieces(stream)
				flushed(t, l, 2, len(pieces))
				for i, piece := range pieces {
					if s, _ := d.Read(i); !bytes.Equal(s, slowSector(1, i, piece)) {
						t.Fatalf("sector %d: %x", i, s)
					}
				}
				wantScan(t, d, 0, 10, 1, lsn, records, len(pieces))
			}
		}
	}
}

func TestP10_8NextIsSectorsAtTheEnd(t *testing.T) {
	l, d := fresh(t, 4, 1<<56)
	// Each fills its sectors to the last byte.
	records := [][]byte{make([]byte, 211), make([]byte, 211)}
	for _, p := range records {
		added(t, l, p)
	}
	wantFigures(t, l, 1<<56+2, 1<<56, 2, 0, 0)
	flushed(t, l, 2, 4)
	wantFigures(t, l, 1<<56+2, 1<<56+2, 0, 0, 4)
	want(t, "Reserve with none left", l.Reserve(1), api.ErrFull)
	wantScan(t, d, 0, 4, 1, 1<<56, records, 4)
}

func TestP10_9ANilLog(t *testing.T) {
	var l *wal.Log
	for range 2 {
		for _, n := range []int{least, -1, 0, 1, 4096, 4097, greatest} {
			want(t, "Reserve", l.Reserve(n), api.OK)
			want(t, "Append", l.Append(n, n, nil), api.OK)
			want(t, "Append", l.Append(n, n, []byte("p")), api.OK)
		}
		if n, e := l.Number(); n != 0 || e != api.OK {
			t.Errorf("Number: %d, %d", n, e)
		}
		wantCollect(t, l, 0, api.OK)
		wantWrite(t, l, false, api.OK)
		wantBarrier(t, l, api.OK)
		wantFigures(t, l, 0, 0, 0, 0, 0)
	}
}

// A Log that Open did not make is one without sectors and buffers.
func TestR1TheZeroLog(t *testing.T) {
	l := &wal.Log{}
	want(t, "Reserve", l.Reserve(1), api.ErrFull)
	if n, e := l.Number(); n != 1 || e != api.OK {
		t.Errorf("Number: %d, %d", n, e)
	}
	want(t, "Append", l.Append(0, 1, []byte("p")), api.ErrBuffer)
	wantCollect(t, l, 0, api.OK)
	wantWrite(t, l, false, api.ErrNone)
	wantBarrier(t, l, api.ErrNone)
	wantFigures(t, l, 1, 0, 0, 0, 0)
}
