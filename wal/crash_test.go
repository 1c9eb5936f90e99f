package wal_test

import (
	"bytes"
	"math/rand"
	"slices"
	"testing"

	"larder/api"
	"larder/disk"
	"larder/wal"
)

// life is one life of a log on a disk that other lives have written on. Its records begin with its mark, so that each tells whose it is.
type life struct {
	place
	log       *wal.Log
	disk      *disk.Disk
	mark      byte
	collected int
	open      []int          // numbers that were given and have no record
	records   map[int][]byte // all that were appended
	others    []int          // lives that are not this one
}

func newLife(t *testing.T, d *disk.Disk, p place, mark byte, others []int) *life {
	t.Helper()
	return &life{
		place: p, log: opened(t, d, p.from, p.sectors, p.life, p.lsn, p.buffers), disk: d,
		mark: mark, collected: p.lsn, records: map[int][]byte{}, others: others,
	}
}

func (l *life) record(r *rand.Rand, n int) []byte {
	p := randomBytes(r, n)
	p[0] = l.mark
	return p
}

// step does something with the log.
func (l *life) step(t *testing.T, r *rand.Rand, length int) {
	t.Helper()
	switch k := r.Intn(12); {
	case k < 3:
		if l.log.Reserve(length) == api.OK {
			lsn, e := l.log.Number()
			want(t, "Number", e, api.OK)
			l.open = append(l.open, lsn)
		}
	case k < 6:
		if len(l.open) == 0 {
			return
		}
		i := r.Intn(min(len(l.open), 3))
		p := l.record(r, length)
		if l.log.Append(r.Intn(l.buffers), l.open[i], p) == api.OK {
			l.records[l.open[i]] = p
			l.open = slices.Delete(l.open, i, i+1)
		}
	case k == 6:
		// What is refused changes nothing.
		l.log.Append(0, l.collected, []byte{l.mark})
		l.log.Append(-1, l.collected+1, []byte{l.mark})
		l.log.Reserve(0)
	case k < 8:
		n, _ := l.log.Collect()
		l.collected += n
	case k < 11:
		l.log.Write()
	default:
		l.log.Barrier()
	}
}

// hold asks what a power failure would leave now, and holds it against P10.13; it answers that image.
func (l *life) hold(t *testing.T, c api.Crash) []byte {
	t.Helper()
	image, e := l.disk.At(l.disk.Count(), c)
	if e != api.OK {
		t.Fatalf("At(%+v): %d", c, e)
	}
	left := newDisk(t, image, l.disk.Sectors())
	list, count, e := wal.Scan(left, l.from, l.sectors, l.life, l.lsn)
	if e != api.OK || count < 0 || count > l.log.Next() {
		t.Fatalf("Scan of %+v: %d sectors of %d, %d", c, count, l.log.Next(), e)
	}
	if k := l.lsn + len(list); k < l.log.Durable() || k > l.collected {
		t.Fatalf("life %d, %+v: up to %d are told; durable %d, collected %d", l.life, c, k, l.log.Durable(), l.collected)
	}
	for i, p := range list {
		if !bytes.Equal(p, l.records[l.lsn+1+i]) {
			t.Fatalf("life %d, %+v: record %d: %x, want %x", l.life, c, l.lsn+1+i, p, l.records[l.lsn+1+i])
		}
	}
	return image
}

// holdOthers asks an image for what other lives have left there.
func (l *life) holdOthers(t *testing.T, image []byte) {
	t.Helper()
	left := newDisk(t, image, l.disk.Sectors())
	for _, other := range l.others {
		for _, lsn := range []int{0, l.lsn} {
			list, _, e := wal.Scan(left, l.from, l.sectors, other, lsn)
			if e != api.OK {
				t.Fatalf("Scan: %d", e)
			}
			for _, p := range list {
				if p[0] == l.mark {
					t.Fatalf("life %d tells a record of life %d: %x", other, l.life, p)
				}
			}
		}
	}
}

// randomCrash is one of so many loose writes.
func randomCrash(r *rand.Rand, loose int) api.Crash {
	c := api.Crash{Torn: -1}
	keep := r.Intn(3)
	for i := range loose {
		if keep == 2 || keep == 1 && r.Intn(2) == 0 {
			c.Keep = append(c.Keep, i)
		}
	}
	if loose > 0 && r.Intn(3) > 0 {
		c.Torn = r.Intn(loose)
		c.Bytes = r.Intn(129)
		c.Keep = slices.DeleteFunc(c.Keep, func(i int) bool { return i == c.Torn })
	}
	return c
}

// livesOf answers so many rising lives: their stamps differ in one byte, or in many.
func livesOf(r *rand.Rand, count int) []int {
	ends := []int{1, 2, 3, 14, 15, 16, 17, 255, 256, 4095, 4096, 65535, 65536, 1 << 20, 1<<28 - 1, 1 << 28, 1<<36 - 1, 1 << 36, api.MaxLife - 1, api.MaxLife}
	first := r.Intn(len(ends) - count + 1)
	return ends[first : first+count]
}

// chain plays lives one behind the other on one disk, each on what a power failure has left of the one ahead; hold is asked at every moment.
func chain(t *testing.T, r *rand.Rand, count, sectors, steps, most int, hold func(*life)) (durable int) {
	t.Helper()
	image := make([]byte, 128*(sectors+2))
	lsn := []int{0, 120, 16380, 1 << 56}[r.Intn(4)]
	lives := livesOf(r, count)
	for i, n := range lives {
		d := newDisk(t, image, sectors+2)
		others := append(slices.Delete(slices.Clone(lives), i, i+1), n-1, n+1)
		others = slices.DeleteFunc(others, func(o int) bool { return o < 1 || o > api.MaxLife })
		l := newLife(t, d, place{1, sectors, n, lsn, 1 + r.Intn(4)}, byte(i+1), others)
		hold(l)
		for range steps {
			length := 1 + r.Intn(most)
			if r.Intn(10) == 0 {
				length = 1 + r.Intn(4*most)
			}
			l.step(t, r, length)
			hold(l)
		}
		durable += l.log.Durable() - lsn
		image = l.hold(t, randomCrash(r, len(d.Pending())))
		l.holdOthers(t, image)
		left, _ := slowScan(image, 1, sectors, n, lsn)
		lsn += len(left)
	}
	return durable
}

// Any subset of the loose writes, and any one of the others torn in the middle, at every moment.
func TestP10_13EveryChoice(t *testing.T) {
	r := rand.New(rand.NewSource(131))
	durable := 0
	for range 60 {
		durable += chain(t, r, 4, 14, 50, 60, func(l *life) {
			if len(l.disk.Pending()) > 4 {
				return
			}
			for c := range l.disk.Choices(l.disk.Count()) {
				l.holdOthers(t, l.hold(t, c))
			}
		})
	}
	if durable < 300 {
		t.Errorf("only %d records were durable", durable)
	}
}

// Any subset of the loose writes, and any one of the others torn at any byte.
func TestP10_13EveryTear(t *testing.T) {
	r := rand.New(rand.NewSource(132))
	tears := 0
	for range 150 {
		var last *disk.Disk
		count := 0
		chain(t, r, 3, 10, 40, 50, func(l *life) {
			loose := len(l.disk.Pending())
			// Only where the disk has changed since, and few are loose.
			if loose == 0 || loose > 3 || l.disk == last && l.disk.Count() == count {
				return
			}
			last, count = l.disk, l.disk.Count()
			for subset := range 1 << loose {
				c := api.Crash{}
				for i := range loose {
					if subset>>i&1 == 1 {
						c.Keep = append(c.Keep, i)
					}
				}
				for c.Torn = range loose {
					for c.Bytes = range 129 {
						l.hold(t, c)
						tears++
					}
				}
			}
		})
	}
	if tears < 200000 {
		t.Errorf("only %d tears", tears)
	}
}

// Many scripts with long flushes; at every moment some power failures.
func TestP10_13AnyCalls(t *testing.T) {
	r := rand.New(rand.NewSource(133))
	durable := 0
	for range 120 {
		durable += chain(t, r, 5, 30, 70, 250, func(l *life) {
			loose := len(l.disk.Pending())
			for range 3 {
				l.holdOthers(t, l.hold(t, randomCrash(r, loose)))
			}
			l.hold(t, api.Crash{Torn: -1})
			all := api.Crash{Torn: loose}
			for i := range loose {
				all.Keep = append(all.Keep, i)
			}
			l.hold(t, all)
		})
	}
	if durable < 1000 {
		t.Errorf("only %d records were durable", durable)
	}
}

// What was durable once is told of every later moment, and of every earlier moment what was so then.
func TestP10_13EarlierMoments(t *testing.T) {
	r := rand.New(rand.NewSource(134))
	for range 60 {
		d := newDisk(t, nil, 20)
		l := newLife(t, d, place{0, 20, 7, 0, 2}, 1, nil)
		// By how many operations the disk had: what was durable, and the most that was collected then.
		durable, collected := map[int]int{}, map[int]int{}
		for range 100 {
			l.step(t, r, 1+r.Intn(100))
			durable[d.Count()] = l.log.Durable()
			collected[d.Count()] = l.collected
		}
		for n, least := range durable {
			for range 20 {
				image, e := d.At(n, randomCrash(r, 3))
				list, _ := slowScan(image, 0, 20, 7, 0)
				if e != api.OK || len(list) < least || len(list) > collected[n] {
					t.Fatalf("behind %d operations: %d records; durable %d, collected %d", n, len(list), least, collected[n])
				}
			}
		}
	}
}
