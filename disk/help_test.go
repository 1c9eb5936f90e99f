package disk_test

import (
	"bytes"
	"math/rand"
	"slices"
	"testing"

	"larder/api"
	"larder/disk"
)

func full(b byte) []byte { return bytes.Repeat([]byte{b}, api.SectorBytes) }

func zeros(n int) []byte { return make([]byte, n) }

func joined(pieces ...[]byte) []byte { return bytes.Join(pieces, nil) }

func newDisk(t *testing.T, image []byte, sectors int) *disk.Disk {
	t.Helper()
	d, e := disk.New(image, sectors)
	if d == nil || e != api.OK {
		t.Fatalf("New(%d bytes, %d): %v, %d", len(image), sectors, d, e)
	}
	return d
}

func write(t *testing.T, d *disk.Disk, n int, p []byte) {
	t.Helper()
	if e := d.Write(n, p); e != api.OK {
		t.Fatalf("Write(%d): %d", n, e)
	}
}

func flush(t *testing.T, d *disk.Disk) {
	t.Helper()
	if e := d.Flush(); e != api.OK {
		t.Fatalf("Flush: %d", e)
	}
}

func wantWrite(t *testing.T, d *disk.Disk, n int, p []byte, want api.Errno) {
	t.Helper()
	count := d.Count()
	if e := d.Write(n, p); e != want {
		t.Errorf("Write(%d, %d bytes): %d, want %d", n, len(p), e, want)
	}
	if want != api.OK && d.Count() != count {
		t.Errorf("Write(%d, %d bytes): a refused write is counted", n, len(p))
	}
}

func wantRead(t *testing.T, d *disk.Disk, n int, want []byte, wantE api.Errno) {
	t.Helper()
	if p, e := d.Read(n); !bytes.Equal(p, want) || e != wantE {
		t.Errorf("Read(%d): %q, %d; want %q, %d", n, p, e, want, wantE)
	}
}

func wantAt(t *testing.T, d *disk.Disk, n int, c api.Crash, want []byte) {
	t.Helper()
	if p, e := d.At(n, c); !bytes.Equal(p, want) || e != api.OK {
		t.Errorf("At(%d, %v): %q, %d; want %q", n, c, p, e, want)
	}
}

func wantNoAt(t *testing.T, d *disk.Disk, n int, c api.Crash) {
	t.Helper()
	if p, e := d.At(n, c); len(p) != 0 || e != api.ErrArg {
		t.Errorf("At(%d, %v): %q, %d; want ErrArg", n, c, p, e)
	}
}

func wantImages(t *testing.T, d *disk.Disk, image, durable []byte) {
	t.Helper()
	if p := d.Image(); !bytes.Equal(p, image) {
		t.Errorf("Image: %q, want %q", p, image)
	}
	if p := d.Durable(); !bytes.Equal(p, durable) {
		t.Errorf("Durable: %q, want %q", p, durable)
	}
}

func wantCounts(t *testing.T, d *disk.Disk, count int, pending ...int) {
	t.Helper()
	if d.Count() != count {
		t.Errorf("Count: %d, want %d", d.Count(), count)
	}
	if l := d.Pending(); !slices.Equal(l, pending) {
		t.Errorf("Pending: %v, want %v", l, pending)
	}
}

func sameCrash(a, b api.Crash) bool {
	return slices.Equal(a.Keep, b.Keep) && a.Torn == b.Torn && a.Bytes == b.Bytes
}

func wantChoices(t *testing.T, name string, seq func(func(api.Crash) bool), want []api.Crash) {
	t.Helper()
	var got []api.Crash
	for c := range seq {
		got = append(got, c)
	}
	if !slices.EqualFunc(got, want, sameCrash) {
		t.Errorf("%s: %v, want %v", name, got, want)
	}
}

// past is a disk that knows nothing but what came, and finds each byte by going back through it.
type past struct {
	image []byte
	steps []step
}

// step is a write, or a flush if its sector is below 0.
type step struct {
	sector int
	bytes  []byte
}

// looseFrom answers how many of the first n steps stand ahead of those that are loose then.
func (p *past) looseFrom(n int) int {
	for i := n; i > 0; i-- {
		if p.steps[i-1].sector < 0 {
			return i
		}
	}
	return 0
}

// byteAt answers the byte at a place of the image that At(n, c) is.
func (p *past) byteAt(n int, c api.Crash, place int) byte {
	sector, column := place/api.SectorBytes, place%api.SectorBytes
	from := p.looseFrom(n)
	for i := n - 1; i >= 0; i-- {
		s := p.steps[i]
		safe := i < from || slices.Contains(c.Keep, i-from) || c.Torn == i-from && column < c.Bytes
		if s.sector == sector && safe {
			return s.bytes[column]
		}
	}
	return p.image[place]
}

func (p *past) at(n int, c api.Crash) []byte {
	image := make([]byte, len(p.image))
	for i := range image {
		image[i] = p.byteAt(n, c, i)
	}
	return image
}

// pending answers the sectors of the writes that are loose behind the first n steps.
func (p *past) pending(n int) []int {
	var l []int
	for _, s := range p.steps[p.looseFrom(n):n] {
		l = append(l, s.sector)
	}
	return l
}

func randomBytes(r *rand.Rand, n int) []byte {
	b := make([]byte, n)
	r.Read(b)
	return b
}

// randomStep does something to a disk, and lays it down in its past.
func randomStep(t *testing.T, r *rand.Rand, d *disk.Disk, p *past) {
	t.Helper()
	if r.Intn(5) == 0 {
		flush(t, d)
		p.steps = append(p.steps, step{sector: -1})
		return
	}
	s := step{r.Intn(d.Sectors()), randomBytes(r, api.SectorBytes)}
	write(t, d, s.sector, s.bytes)
	p.steps = append(p.steps, s)
}

func randomDisk(t *testing.T, r *rand.Rand, steps int) (*disk.Disk, *past) {
	t.Helper()
	sectors := 1 + r.Intn(5)
	image := randomBytes(r, r.Intn(sectors*api.SectorBytes+1))
	d := newDisk(t, image, sectors)
	p := &past{image: joined(image, zeros(sectors*api.SectorBytes-len(image)))}
	for range steps {
		randomStep(t, r, d, p)
	}
	return d, p
}

// randomCrash answers one of about so many loose writes, with numbers beside theirs and twice.
func randomCrash(r *rand.Rand, loose int) api.Crash {
	c := api.Crash{Torn: r.Intn(loose+4) - 2}
	for range r.Intn(2*loose + 3) {
		c.Keep = append(c.Keep, r.Intn(loose+4)-2)
	}
	switch r.Intn(4) {
	case 0:
		c.Bytes = api.SectorBytes
	case 1:
	default:
		c.Bytes = r.Intn(api.SectorBytes)
	}
	return c
}
