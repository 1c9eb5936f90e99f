package wal_test

import (
	"bytes"
	"testing"

	"larder/api"
	"larder/wal"
)

// wantBroken asks a log for ErrFull, whatever else each call would be refused for, and that what it has told stands.
func wantBroken(t *testing.T, l *wal.Log) {
	t.Helper()
	before := figuresOf(l)
	for range 2 {
		for _, n := range []int{least, 0, 1, 4096, 4097, greatest} {
			want(t, "Reserve", l.Reserve(n), api.ErrFull)
			for _, p := range [][]byte{nil, []byte("p"), make([]byte, 4097)} {
				want(t, "Append", l.Append(0, n, p), api.ErrFull)
				want(t, "Append", l.Append(n, 0, p), api.ErrFull)
				want(t, "Append", l.Append(0, l.Given(), p), api.ErrFull)
			}
		}
		if n, e := l.Number(); n != 0 || e != api.ErrFull {
			t.Errorf("Number: %d, %d; want 0, ErrFull", n, e)
		}
		wantCollect(t, l, 0, api.ErrFull)
		wantWrite(t, l, false, api.ErrFull)
		wantBarrier(t, l, api.ErrFull)
		want(t, "figures", figuresOf(l), before)
	}
}

// Flushes of two sectors, each with its barrier, till the disk takes no more: it refuses a first write, a second one, or a barrier.
func TestP10_7ADiskThatRefuses(t *testing.T) {
	for left := range 8 {
		d := tired(t, 20, left)
		l := opened(t, d, 1, 19, 7, 3, 2)
		done := 0
		for e := api.OK; e == api.OK; {
			added(t, l, bytes.Repeat([]byte{'p'}, 150))
			wantCollect(t, l, 1, api.OK)
			for last := false; !last && e == api.OK; done++ {
				last, e = l.Write()
				if last && e != api.OK {
					t.Error("a write that was refused is told as the last one")
				}
			}
			if e == api.OK {
				e = l.Barrier()
				done++
			}
			if e != api.OK {
				want(t, "the error", e, api.ErrFull)
			}
		}
		want(t, "operations that went well", done-1, left)
		wantFigures(t, l, 3+left/3+1, 3+left/3, 0, 19-2*(left/3+1), 2*(left/3)+left%3)
		want(t, "operations of the disk", d.Count(), api.MaxOps)
		wantBroken(t, l)
	}
}

func TestP10_7WhatABrokenLogHasTold(t *testing.T) {
	// A write and a flush go well; then of a flush of three sectors the second is refused.
	d := tired(t, 10, 3)
	l := opened(t, d, 0, 10, 1, 0, 2)
	added(t, l, []byte("safe"))
	flushed(t, l, 1, 1)
	added(t, l, make([]byte, 250))
	added(t, l, []byte("with it"))
	numbered(t, l, 200)
	laid(t, l, 0, numbered(t, l, 1), []byte("behind a gap"))
	wantCollect(t, l, 2, api.OK)
	wantWrite(t, l, false, api.OK)
	wantFigures(t, l, 5, 1, 1, 2, 2)
	wantWrite(t, l, false, api.ErrFull)
	wantFigures(t, l, 5, 1, 1, 2, 2)
	wantBroken(t, l)
	wantScan(t, d, 0, 10, 1, 0, texts("safe"), 2)
	// A refused Flush: nothing of it is durable.
	d = tired(t, 10, 1)
	l = opened(t, d, 0, 10, 1, 0, 2)
	added(t, l, []byte("loose"))
	wantCollect(t, l, 1, api.OK)
	wantWrite(t, l, true, api.OK)
	wantBarrier(t, l, api.ErrFull)
	wantFigures(t, l, 1, 0, 0, 9, 1)
	wantBroken(t, l)
}

// ErrFull is ahead of ErrEnd, too.
func TestP10_7BrokenAtTheLastNumber(t *testing.T) {
	d := tired(t, 2, 0)
	l := opened(t, d, 0, 2, 1, api.MaxLsn-1, 1)
	added(t, l, []byte("last"))
	if n, e := l.Number(); n != 0 || e != api.ErrEnd {
		t.Errorf("Number: %d, %d", n, e)
	}
	wantCollect(t, l, 1, api.OK)
	wantWrite(t, l, false, api.ErrFull)
	wantBroken(t, l)
}

// A disk that takes nothing breaks no log that asks nothing of it.
func TestP10_7NothingToWriteBreaksNothing(t *testing.T) {
	d := tired(t, 4, 0)
	l := opened(t, d, 0, 4, 1, 0, 1)
	wantWrite(t, l, false, api.ErrNone)
	wantBarrier(t, l, api.ErrNone)
	wantCollect(t, l, 0, api.OK)
	added(t, l, []byte("p"))
	wantFigures(t, l, 1, 0, 1, 3, 0)
	wantBarrier(t, l, api.ErrNone)
	wantCollect(t, l, 1, api.OK)
	wantBarrier(t, l, api.ErrBusy)
	want(t, "Reserve", l.Reserve(1), api.OK)
	wantWrite(t, l, false, api.ErrFull)
	wantBroken(t, l)
	// Another log of the same disk is another object.
	other := opened(t, d, 0, 4, 2, 0, 1)
	want(t, "Reserve", other.Reserve(1), api.OK)
}
