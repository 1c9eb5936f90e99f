package mend_test

import (
	"math/rand"
	"strconv"
	"testing"

	"larder/api"
	"larder/disk"
	"larder/mend"
	"larder/stock"
	"larder/wal"
)

// store is what section 13.3 speaks of: effects of one ledger that are laid into a log, and checkpoints, on one disk. It knows what a ledger has behind each effect, so that whatever a power failure leaves can be held against it.
type store struct {
	t      *testing.T
	c      api.Config
	d      *disk.Disk
	log    *wal.Log
	life   int
	ledger *stock.Ledger
	first  int            // the number of effects that the first of states is behind
	states []api.State    // behind each effect
	loose  map[int][]byte // records that have a number and lie in no buffer yet
	taken  int            // the last number that was collected
	ids    int            // requests are named by it
	fail   func(s *store) // what is done behind each of the disk's operations
}

// raised recovers a disk, of which nothing is asked yet, and opens the log of its life.
func raised(t *testing.T, c api.Config, image []byte, fail func(s *store)) *store {
	t.Helper()
	s := &store{t: t, c: c, d: newDisk(t, image, c.Sectors), loose: map[int][]byte{}, fail: fail}
	state, epoch, _, e := mend.Recover(s.d, c)
	if e != api.OK {
		t.Fatalf("Recover: %d", e)
	}
	s.begin(state, epoch)
	return s
}

// begin lets the store go on behind a Recover.
func (s *store) begin(state api.State, epoch int) {
	s.t.Helper()
	var e api.Errno
	if s.ledger, e = stock.From(state); e != api.OK {
		s.t.Fatalf("not sound: %s", show(state))
	}
	if len(s.states) == 0 {
		s.first, s.states = state.Lsn, []api.State{state}
	}
	s.open(epoch)
}

func (s *store) open(life int) {
	s.t.Helper()
	var e api.Errno
	s.life, s.taken = life, s.ledger.State().Lsn
	if s.log, e = wal.Open(s.d, 2*s.c.Slot, s.c.Sectors-2*s.c.Slot, life, s.taken, s.c.Stripes); e != api.OK {
		s.t.Fatalf("wal.Open: %d", e)
	}
}

// effect does a request, if it has an effect and there is room for its record; the record has a number then, and lies nowhere yet.
func (s *store) effect(r *rand.Rand) {
	s.t.Helper()
	s.ids++
	q := someRequest(r, s.ledger.State(), "q"+strconv.Itoa(s.ids))
	if s.ledger.Would(q).Err != api.OK {
		return
	}
	n, _, _ := stock.Normal(q)
	p := record(s.t, n)
	if s.log.Reserve(len(p)) != api.OK {
		return
	}
	lsn, e := s.log.Number()
	if e != api.OK {
		return
	}
	s.ledger.Do(q)
	s.states = append(s.states, s.ledger.State())
	s.loose[lsn] = p
	if len(s.states) != lsn-s.first+1 {
		s.t.Fatalf("effect %d has the number %d", len(s.states)-1+s.first, lsn)
	}
}

// append lays one of the records that have a number into a buffer, in any order.
func (s *store) append(r *rand.Rand) {
	s.t.Helper()
	lsn := s.log.Given() - r.Intn(4)
	for s.loose[lsn] == nil && lsn > s.taken {
		lsn--
	}
	if p := s.loose[lsn]; p != nil {
		want(s.t, "Append", s.log.Append(r.Intn(s.c.Stripes), lsn, p), api.OK)
		delete(s.loose, lsn)
	}
}

func (s *store) collect() {
	n, _ := s.log.Collect()
	s.taken += n
}

func (s *store) write() {
	if _, e := s.log.Write(); e == api.OK {
		s.fail(s)
	}
}

func (s *store) barrier() {
	if s.log.Barrier() == api.OK {
		s.fail(s)
	}
}

// settle makes all durable that has a number.
func (s *store) settle(r *rand.Rand) {
	for len(s.loose) > 0 {
		s.append(r)
	}
	for s.log.Durable() < s.log.Given() {
		s.collect()
		s.write()
		s.barrier()
	}
}

// save saves a checkpoint of the state behind all, and opens the log of the new life.
func (s *store) save(r *rand.Rand) {
	s.t.Helper()
	s.settle(r)
	if s.life+1 >= api.MaxLife {
		return
	}
	body, head, e := mend.Layout(s.c, s.life+1, s.ledger.State())
	if e != api.OK {
		s.t.Fatalf("Layout: %d", e)
	}
	for _, w := range body {
		want(s.t, "Write", s.d.Write(w.Sector, w.Bytes), api.OK)
		s.fail(s)
	}
	want(s.t, "Flush", s.d.Flush(), api.OK)
	s.fail(s)
	want(s.t, "Write", s.d.Write(head.Sector, head.Bytes), api.OK)
	s.fail(s)
	want(s.t, "Flush", s.d.Flush(), api.OK)
	s.fail(s)
	s.open(s.life + 1)
}

// step does something.
func (s *store) step(r *rand.Rand) {
	switch n := r.Intn(40); {
	case n < 14:
		s.effect(r)
	case n < 24:
		s.append(r)
	case n < 28:
		s.collect()
	case n < 34:
		s.write()
	case n < 37:
		s.barrier()
	case n == 37:
		s.settle(r)
	case n == 38 && r.Intn(3) == 0 || s.log.Free() == 0:
		s.save(r)
	}
}

// wantBack holds what Recover makes of an image against P13.8, and answers its state and epoch, and the disk.
func (s *store) wantBack(image []byte) (*disk.Disk, api.State, int) {
	s.t.Helper()
	d := newDisk(s.t, image, s.c.Sectors)
	saved, last, _ := mend.Newest(d, s.c)
	got, epoch, n, e := mend.Recover(d, s.c)
	switch {
	case e != api.OK:
		s.t.Fatalf("Recover: %d", e)
	case got.Lsn < s.log.Durable() || got.Lsn > s.taken:
		s.t.Fatalf("%d effects are back; durable were %d, collected %d", got.Lsn, s.log.Durable(), s.taken)
	case !sameState(got, s.states[got.Lsn-s.first]):
		s.t.Fatalf("behind %d effects: %s, want %s", got.Lsn, show(got), show(s.states[got.Lsn-s.first]))
	case epoch != last+1 || n != got.Lsn-saved.Lsn:
		s.t.Fatalf("epoch %d behind %d, %d records from %d to %d", epoch, last, n, saved.Lsn, got.Lsn)
	}
	return d, got, epoch
}

// crashes answers power failures of this moment: all choices, with some places to tear at, if the loose writes are few; drawn ones else.
func (s *store) crashes(r *rand.Rand, few int, tears ...int) []api.Crash {
	n := len(s.d.Pending())
	var l []api.Crash
	if n <= few {
		for c := range s.d.Choices(s.d.Count()) {
			if c.Torn < 0 {
				l = append(l, c)
				continue
			}
			for _, bytes := range tears {
				l = append(l, api.Crash{Keep: c.Keep, Torn: c.Torn, Bytes: bytes})
			}
		}
		return l
	}
	for range 6 {
		l = append(l, drawn(r, n))
	}
	return l
}

// drawn answers a power failure with n loose writes.
func drawn(r *rand.Rand, n int) api.Crash {
	c := api.Crash{Torn: r.Intn(n+1) - 1, Bytes: r.Intn(129)}
	often := r.Intn(4)
	for i := range n {
		if r.Intn(4) <= often {
			c.Keep = append(c.Keep, i)
		}
	}
	return c
}

// left answers the image that a power failure of this moment leaves.
func (s *store) left(c api.Crash) []byte {
	s.t.Helper()
	image, e := s.d.At(s.d.Count(), c)
	if e != api.OK {
		s.t.Fatalf("At: %d", e)
	}
	return image
}

// lose lets the power fail, and the store go on with what comes back.
func (s *store) lose(c api.Crash) {
	s.t.Helper()
	d, state, epoch := s.wantBack(s.left(c))
	s.d = d
	s.states = s.states[:state.Lsn-s.first+1]
	clear(s.loose)
	s.begin(state, epoch)
}
