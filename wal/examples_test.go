package wal_test

import (
	"bytes"
	"testing"

	"larder/api"
	"larder/disk"
	"larder/wal"
)

// The examples of section 10.6, in their order.

func TestExample1NumbersOfSectors(t *testing.T) {
	for n, need := range map[int]int{1: 1, 100: 1, 101: 2, 4096: 37, 0: 0, 4097: 0} {
		if got := wal.Need(n); got != need {
			t.Errorf("Need(%d): %d, want %d", n, got, need)
		}
	}
	want(t, "Stamp(1, 0)", wal.Stamp(1, 0), 4096)
	want(t, "Stamp(1, 4096)", wal.Stamp(1, 4096), 0)
	want(t, "Stamp(0, 0)", wal.Stamp(0, 0), 0)
}

// behindAppends is example 2 up to its second Append.
func behindAppends(t *testing.T) (*wal.Log, *disk.Disk) {
	t.Helper()
	d := newDisk(t, nil, 8)
	l := opened(t, d, 2, 6, 1, 0, 4)
	want(t, "Free", l.Free(), 6)
	want(t, "Reserve(3)", l.Reserve(3), api.OK)
	want(t, "Reserve(3)", l.Reserve(3), api.OK)
	want(t, "Free", l.Free(), 4)
	for _, number := range []int{1, 2} {
		if n, e := l.Number(); n != number || e != api.OK {
			t.Errorf("Number: %d, %d", n, e)
		}
	}
	want(t, "Append(0, 2)", l.Append(0, 2, []byte("two")), api.OK)
	wantCollect(t, l, 0, api.OK)
	return l, d
}

// behindBarrier is example 2 up to its end.
func behindBarrier(t *testing.T) (*wal.Log, *disk.Disk) {
	t.Helper()
	l, d := behindAppends(t)
	want(t, "Append(3, 1)", l.Append(3, 1, []byte("one")), api.OK)
	want(t, "Waiting", l.Waiting(), 2)
	wantCollect(t, l, 2, api.OK)
	want(t, "Waiting", l.Waiting(), 0)
	wantWrite(t, l, true, api.OK)
	want(t, "Durable", l.Durable(), 0)
	wantBarrier(t, l, api.OK)
	want(t, "Durable", l.Durable(), 2)
	want(t, "Next", l.Next(), 1)
	return l, d
}

func TestExample2ALog(t *testing.T) {
	_, d := behindBarrier(t)
	s, _ := d.Read(2)
	if !bytes.Equal(s, slowSector(1, 0, []byte("\x01\x03one\x02\x03two"))) {
		t.Errorf("the sector: %q", s)
	}
}

func TestExample3WhatIsRefused(t *testing.T) {
	l, _ := behindAppends(t)
	want(t, "Append(0, 2)", l.Append(0, 2, []byte("x")), api.ErrLsn)
	want(t, "Append(9, 1)", l.Append(9, 1, []byte("x")), api.ErrBuffer)
	want(t, "Append(0, 3)", l.Append(0, 3, []byte("x")), api.ErrLsn)
	wantWrite(t, l, false, api.ErrNone)
	laid(t, l, 3, 1, []byte("one"))
	wantCollect(t, l, 2, api.OK)
	wantCollect(t, l, 0, api.ErrBusy)
}

func TestExample4Scan(t *testing.T) {
	_, d := behindBarrier(t)
	wantScan(t, d, 2, 6, 1, 0, texts("one", "two"), 1)
	wantScan(t, d, 2, 6, 2, 0, nil, 0)
	wantScan(t, d, 2, 6, 1, 5, nil, 1)
}

func TestExample5Room(t *testing.T) {
	l, _ := fresh(t, 6, 0)
	want(t, "Reserve(600)", l.Reserve(600), api.OK)
	want(t, "Reserve(1)", l.Reserve(1), api.ErrFull)
	l.Number()
	want(t, "Append of 700 bytes", l.Append(0, 1, make([]byte, 700)), api.ErrRoom)
}
