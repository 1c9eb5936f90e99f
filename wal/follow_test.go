package wal_test

import (
	"bytes"
	"math/rand"
	"testing"

	"larder/api"
	"larder/disk"
	"larder/wal"
)

// orders goes over all orders of 1 to n.
func orders(n int, do func([]int)) {
	list := make([]int, n)
	var fill func(k int)
	fill = func(k int) {
		if k > n {
			do(list)
			return
		}
		for i := range list {
			if list[i] == 0 {
				list[i] = k
				fill(k + 1)
				list[i] = 0
			}
		}
	}
	fill(1)
}

// gapless holds a log against P10.11: behind each call durable has not fallen and is not above what was collected, and what is written is records without a gap.
type gapless struct {
	log       *wal.Log
	disk      *disk.Disk
	sectors   int
	records   map[int][]byte
	collected int
	durable   int
}

func (g *gapless) collect(t *testing.T) {
	t.Helper()
	n, e := g.log.Collect()
	if e == api.OK {
		g.collected += n
	}
	for lsn := 1; lsn <= g.collected; lsn++ {
		if g.records[lsn] == nil {
			t.Fatalf("%d was collected, and %d has no record", g.collected, lsn)
		}
	}
	if next := g.records[g.collected+1]; e == api.OK && next != nil {
		t.Fatalf("%d could have been collected", g.collected+1)
	}
}

func (g *gapless) hold(t *testing.T) {
	t.Helper()
	if d := g.log.Durable(); d < g.durable || d > g.collected {
		t.Fatalf("durable %d behind %d, collected %d", d, g.durable, g.collected)
	}
	g.durable = g.log.Durable()
	list, _ := slowScan(g.disk.Image(), 0, g.sectors, 1, 0)
	if len(list) < g.durable || len(list) > g.collected {
		t.Fatalf("%d records stand on the disk, durable %d, collected %d", len(list), g.durable, g.collected)
	}
	for i, p := range list {
		if !bytes.Equal(p, g.records[i+1]) {
			t.Fatalf("record %d on the disk is %q", i+1, p)
		}
	}
}

func TestP10_11NoGapInAnyOrder(t *testing.T) {
	const n = 5
	orders(n, func(order []int) {
		// Where between the appends a flush is gone on with: Collect, Write and Barrier, one at each place.
		for pattern := range 1 << n {
			l, d := fresh(t, 20, 0)
			g := &gapless{log: l, disk: d, sectors: 20, records: map[int][]byte{}}
			for range n {
				numbered(t, l, 150)
			}
			for i, lsn := range order {
				p := bytes.Repeat([]byte{byte(lsn)}, 1+lsn*25)
				laid(t, l, i%4, lsn, p)
				g.records[lsn] = p
				if pattern>>i&1 == 1 {
					g.collect(t)
					g.hold(t)
					l.Write()
					g.hold(t)
					l.Write()
					l.Barrier()
					g.hold(t)
				}
			}
			for l.Durable() < n {
				before := figuresOf(l)
				l.Write()
				g.hold(t)
				l.Barrier()
				g.hold(t)
				g.collect(t)
				if figuresOf(l) == before {
					t.Fatalf("%v: it goes no further: %+v", order, before)
				}
			}
			g.hold(t)
			wantFigures(t, l, n, n, 0, 10, l.Next())
		}
	})
}

// Groups of any records: the log writes into its own sectors alone, and they are enough.
func roomIsEnough(t *testing.T, r *rand.Rand, lengths []int, lsn, most int) {
	t.Helper()
	sectors := 0
	for _, n := range lengths {
		sectors += slowNeed(n)
	}
	image := bytes.Repeat([]byte{0xee}, 128*(sectors+4))
	d := newDisk(t, image, sectors+4)
	l := opened(t, d, 2, sectors, 3, lsn, 1)
	var records [][]byte
	for len(lengths) > 0 {
		group := min(len(lengths), 1+r.Intn(most))
		for _, n := range lengths[:group] {
			p := randomBytes(r, n)
			added(t, l, p)
			records = append(records, p)
		}
		lengths = lengths[group:]
		wantCollect(t, l, group, api.OK)
		written(t, l)
		wantBarrier(t, l, api.OK)
		if used := l.Next(); used+l.Free() > sectors {
			t.Fatalf("%d sectors are used and %d free, of %d", used, l.Free(), sectors)
		}
	}
	want(t, "Free", l.Free(), 0)
	seen := d.Image()
	if !bytes.Equal(seen[:256], image[:256]) || !bytes.Equal(seen[128*(sectors+2):], image[:256]) {
		t.Fatal("a sector beside the log was written")
	}
	wantScan(t, d, 2, sectors, 3, lsn, records, l.Next())
}

// Records of all lengths, with numbers of all lengths.
func TestP10_12RoomIsEnough(t *testing.T) {
	r := rand.New(rand.NewSource(112))
	all := r.Perm(api.MaxRecord)
	for len(all) > 0 {
		count := min(len(all), 1+r.Intn(60))
		lengths := make([]int, count)
		for i := range lengths {
			lengths[i] = all[i] + 1
		}
		all = all[count:]
		lsn := []int{0, 100, 16350, 1<<56 - 20, 1 << 56, api.MaxLsn - 60}[r.Intn(6)]
		roomIsEnough(t, r, lengths, lsn, 1+r.Intn(10))
	}
}

// Those that fill their room to the last byte, and many small ones, one by one and together.
func TestP10_12RoomIsJustEnough(t *testing.T) {
	r := rand.New(rand.NewSource(113))
	var full, small []int
	for n := 211; n <= api.MaxRecord; n += 111 {
		full = append(full, n)
	}
	for n := 1; n <= 102; n++ {
		small = append(small, n)
	}
	for _, lsn := range []int{0, 1 << 56, api.MaxLsn - 102} {
		for _, most := range []int{1, 2, 5, 1000} {
			roomIsEnough(t, r, full, lsn, most)
			roomIsEnough(t, r, small, lsn, most)
		}
	}
	// One that fills its sectors to the last byte, in a log of no more than these.
	for _, n := range full {
		l, d := fresh(t, slowNeed(n), 1<<56)
		p := randomBytes(r, n)
		added(t, l, p)
		flushed(t, l, 1, slowNeed(n))
		want(t, "Next", l.Next(), slowNeed(n))
		wantScan(t, d, 0, slowNeed(n), 1, 1<<56, [][]byte{p}, slowNeed(n))
	}
}

// As many records as the greatest log has sectors.
func TestP10_12TheGreatestLog(t *testing.T) {
	r := rand.New(rand.NewSource(114))
	lengths := make([]int, api.MaxSectors-4)
	for i := range lengths {
		lengths[i] = 100
	}
	roomIsEnough(t, r, lengths, 1<<56, 1)
	roomIsEnough(t, r, lengths, 1<<56, 5000)
}

// P10.12 with any calls: what is free, reserved, a record's and used never comes to more than sectors.
func TestP10_12AnyCalls(t *testing.T) {
	r := rand.New(rand.NewSource(115))
	for range 300 {
		d := newDisk(t, nil, 3+r.Intn(30))
		x := randomPair(t, r, d)
		for range 150 {
			x.step(t, r)
			l := x.log
			if l.Free() < 0 || x.model.room() < 0 || l.Next() > x.model.sectors || l.Free()+x.model.room()+l.Next() > x.model.sectors {
				t.Fatalf("free %d, reserved %d, used %d of %d", l.Free(), x.model.room(), l.Next(), x.model.sectors)
			}
		}
	}
}

func TestP10_14BehindABarrier(t *testing.T) {
	r := rand.New(rand.NewSource(116))
	barriers := 0
	for range 600 {
		// Sectors of earlier lives, and zeros.
		var image []byte
		for n := range 30 {
			image = append(image, slowSector(1+r.Intn(2), n, randomBytes(r, r.Intn(112)))...)
		}
		d := newDisk(t, image[:128*r.Intn(31)], 40)
		x := randomPair(t, r, d)
		x.model.life = 400
		x.log = opened(t, d, x.model.from, x.model.sectors, 400, x.model.lsn, x.model.buffers)
		for range 150 {
			before := x.log.Durable()
			x.step(t, r)
			if x.log.Durable() == before {
				continue
			}
			barriers++
			for range 2 {
				wantScan(t, d, x.model.from, x.model.sectors, 400, x.model.lsn, x.model.told(x.log.Durable()), x.log.Next())
			}
			again := newDisk(t, d.Image(), 40)
			wantScan(t, again, x.model.from, x.model.sectors, 400, x.model.lsn, x.model.told(x.log.Durable()), x.log.Next())
		}
	}
	if barriers < 500 {
		t.Errorf("only %d barriers", barriers)
	}
}
