package wal_test

import (
	"bytes"
	"math/rand"
	"testing"

	"larder/api"
	"larder/disk"
	"larder/wal"
)

// model is a log that keeps all that was done, and reckons each answer anew from that.
type model struct {
	place
	image    []byte // of the disk when it was opened
	ops      int    // operations that the disk still takes
	reserved []int  // lengths that room was reserved for
	given    int
	records  []appended
	flushes  []flushing
	broken   bool
}

type appended struct {
	lsn int
	p   []byte
}

type flushing struct {
	last    int // the last number in it
	pieces  [][]byte
	written int
	safe    bool
}

func modelOf(d *disk.Disk, p place) *model {
	return &model{place: p, image: d.Image(), ops: api.MaxOps - d.Count(), given: p.lsn}
}

func (m *model) free() int {
	n := m.sectors
	for _, size := range m.reserved {
		n -= slowNeed(size)
	}
	return n
}

func (m *model) room() int {
	n := m.sectors - m.free()
	for _, r := range m.records {
		n -= slowNeed(len(r.p))
	}
	return n
}

func (m *model) collected() int {
	if len(m.flushes) == 0 {
		return m.lsn
	}
	return m.flushes[len(m.flushes)-1].last
}

func (m *model) durable() int {
	lsn := m.lsn
	for _, f := range m.flushes {
		if f.safe {
			lsn = f.last
		}
	}
	return lsn
}

func (m *model) find(lsn int) ([]byte, bool) {
	for _, r := range m.records {
		if r.lsn == lsn {
			return r.p, true
		}
	}
	return nil, false
}

func (m *model) figures() figures {
	f := figures{given: m.given, durable: m.durable(), free: m.free()}
	for _, r := range m.records {
		if r.lsn > m.collected() {
			f.waiting++
		}
	}
	for _, l := range m.flushes {
		f.next += l.written
	}
	return f
}

// disk is the image that the disk must have now.
func (m *model) disk() []byte {
	image := bytes.Clone(m.image)
	n := 0
	for _, f := range m.flushes {
		for i, piece := range f.pieces[:f.written] {
			copy(sectorOf(image, m.from+n+i), slowSector(m.life, n+i, piece))
		}
		n += len(f.pieces)
	}
	return image
}

// told is the records from lsn + 1 up to a number.
func (m *model) told(upto int) [][]byte {
	var list [][]byte
	for lsn := m.lsn + 1; lsn <= upto; lsn++ {
		p, _ := m.find(lsn)
		list = append(list, p)
	}
	return list
}

func (m *model) reserve(n int) api.Errno {
	switch {
	case m.broken:
		return api.ErrFull
	case slowNeed(n) == 0:
		return api.ErrArg
	case slowNeed(n) > m.free():
		return api.ErrFull
	}
	m.reserved = append(m.reserved, n)
	return api.OK
}

func (m *model) number() (int, api.Errno) {
	switch {
	case m.broken:
		return 0, api.ErrFull
	case m.given >= api.MaxLsn:
		return 0, api.ErrEnd
	}
	m.given++
	return m.given, api.OK
}

func (m *model) append(buffer, lsn int, p []byte) api.Errno {
	_, has := m.find(lsn)
	switch {
	case m.broken:
		return api.ErrFull
	case buffer < 0 || buffer >= m.buffers:
		return api.ErrBuffer
	case lsn <= m.lsn || lsn > m.given || has:
		return api.ErrLsn
	case slowNeed(len(p)) == 0:
		return api.ErrRecord
	case slowNeed(len(p)) > m.room():
		return api.ErrRoom
	}
	m.records = append(m.records, appended{lsn, bytes.Clone(p)})
	return api.OK
}

// now is the flush that is under way, or nil.
func (m *model) now() *flushing {
	if len(m.flushes) == 0 || m.flushes[len(m.flushes)-1].safe {
		return nil
	}
	return &m.flushes[len(m.flushes)-1]
}

func (m *model) collect() (int, api.Errno) {
	if m.broken {
		return 0, api.ErrFull
	}
	if m.now() != nil {
		return 0, api.ErrBusy
	}
	var stream []byte
	last := m.collected()
	for {
		p, has := m.find(last + 1)
		if !has {
			break
		}
		last++
		stream = append(stream, slowRecord(last, p)...)
	}
	count := last - m.collected()
	if count > 0 {
		m.flushes = append(m.flushes, flushing{last: last, pieces: slowPieces(stream)})
	}
	return count, api.OK
}

// operation asks the disk for one, and answers whether it is refused.
func (m *model) operation() bool {
	m.broken = m.ops == 0
	m.ops--
	return m.broken
}

func (m *model) write() (bool, api.Errno) {
	f := m.now()
	switch {
	case m.broken:
		return false, api.ErrFull
	case f == nil || f.written == len(f.pieces):
		return false, api.ErrNone
	case m.operation():
		return false, api.ErrFull
	}
	f.written++
	return f.written == len(f.pieces), api.OK
}

func (m *model) barrier() api.Errno {
	f := m.now()
	switch {
	case m.broken:
		return api.ErrFull
	case f == nil:
		return api.ErrNone
	case f.written < len(f.pieces):
		return api.ErrBusy
	case m.operation():
		return api.ErrFull
	}
	f.safe = true
	return api.OK
}

// randomLength is that of a record: short as a rule, at an end now and then.
func randomLength(r *rand.Rand) int {
	switch r.Intn(8) {
	case 0:
		return []int{1, 100, 101, 127, 128, 211, 212, 4096}[r.Intn(8)]
	case 1:
		return 1 + r.Intn(600)
	}
	return 1 + r.Intn(60)
}

// randomWrong is a number that few calls take.
func randomWrong(r *rand.Rand) int {
	return []int{least, -1, 0, 1, 64, 4096, 4097, api.MaxLsn, api.MaxLsn + 1, greatest}[r.Intn(10)]
}

// pair is a log and its model, which are asked the same.
type pair struct {
	log   *wal.Log
	model *model
	disk  *disk.Disk
}

func (x pair) reserve(t *testing.T, n int) {
	want(t, "Reserve", x.log.Reserve(n), x.model.reserve(n))
}

func (x pair) number(t *testing.T) {
	n, e := x.log.Number()
	if wantN, wantE := x.model.number(); n != wantN || e != wantE {
		t.Errorf("Number: %d, %d; want %d, %d", n, e, wantN, wantE)
	}
}

func (x pair) append(t *testing.T, buffer, lsn int, p []byte) {
	want(t, "Append", x.log.Append(buffer, lsn, p), x.model.append(buffer, lsn, p))
}

func (x pair) collect(t *testing.T) {
	n, e := x.model.collect()
	wantCollect(t, x.log, n, e)
}

func (x pair) write(t *testing.T) {
	last, e := x.model.write()
	wantWrite(t, x.log, last, e)
}

func (x pair) barrier(t *testing.T) {
	wantBarrier(t, x.log, x.model.barrier())
}

// step asks both for something.
func (x pair) step(t *testing.T, r *rand.Rand) {
	m := x.model
	switch k := r.Intn(22); {
	case k < 5:
		x.reserve(t, randomLength(r))
	case k < 8:
		x.number(t)
	case k < 13:
		// One of the numbers around those that have no record.
		lsn := m.collected() - 1 + r.Intn(m.given-m.collected()+4)
		x.append(t, r.Intn(m.buffers), lsn, randomBytes(r, randomLength(r)))
	case k == 13:
		x.reserve(t, randomWrong(r))
	case k == 14:
		x.append(t, randomWrong(r), m.given, []byte("p"))
		x.append(t, 0, randomWrong(r), []byte("p"))
		x.append(t, 0, m.given, make([]byte, []int{0, 4096, 4097}[r.Intn(3)]))
	case k < 17:
		x.collect(t)
	case k < 20:
		x.write(t)
	default:
		x.barrier(t)
	}
}

// played asks both for so many things, and holds all figures and the disk against the model behind each.
func (x pair) played(t *testing.T, r *rand.Rand, steps int) {
	t.Helper()
	for i := range steps {
		x.step(t, r)
		if got, want := figuresOf(x.log), x.model.figures(); got != want {
			t.Fatalf("step %d: %+v, want %+v", i, got, want)
		}
		if !bytes.Equal(x.disk.Image(), x.model.disk()) {
			t.Fatalf("step %d: the disk is another", i)
		}
		if t.Failed() {
			t.Fatalf("step %d", i)
		}
	}
}

func randomPair(t *testing.T, r *rand.Rand, d *disk.Disk) pair {
	t.Helper()
	from := r.Intn(min(d.Sectors(), 6))
	p := place{from, 1 + r.Intn(d.Sectors()-from), 1 + r.Intn(300), []int{0, 125, 16380, 1 << 56, api.MaxLsn - 20, api.MaxLsn - 5}[r.Intn(6)], 1 + r.Intn(5)}
	return pair{opened(t, d, p.from, p.sectors, p.life, p.lsn, p.buffers), modelOf(d, p), d}
}

// P10.3 to P10.8 and P10.14: any calls, right and wrong ones.
func TestP10_3To8AnyCalls(t *testing.T) {
	r := rand.New(rand.NewSource(108))
	durable := 0
	for range 1500 {
		d := newDisk(t, randomBytes(r, 128*8), 8+r.Intn(80))
		x := randomPair(t, r, d)
		x.played(t, r, 200)
		durable += x.log.Durable() - x.model.lsn
	}
	if durable < 5000 {
		t.Errorf("only %d records were made durable", durable)
	}
}

func TestP10_7AnyCallsOnADiskThatRefuses(t *testing.T) {
	r := rand.New(rand.NewSource(107))
	broken := 0
	for range 60 {
		x := randomPair(t, r, tired(t, 40, r.Intn(12)))
		x.played(t, r, 250)
		if x.model.broken {
			broken++
		}
	}
	if broken < 20 {
		t.Errorf("only %d logs broke", broken)
	}
}
