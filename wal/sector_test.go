package wal_test

import (
	"bytes"
	"math/big"
	"math/rand"
	"testing"

	"larder/api"
	"larder/wal"
)

// Lives and numbers of sectors at the ends of what may be, and beyond.
var (
	goodLives   = []int{1, 2, 15, 16, 255, 256, api.MaxLife - 1, api.MaxLife}
	badLives    = []int{least, -api.MaxLife, -1, 0, api.MaxLife + 1, 1 << 52, 1 << 62, greatest}
	goodSectors = []int{0, 1, 255, 256, api.MaxSectors - 2, api.MaxSectors - 1}
	badSectors  = []int{least, -4096, -1, api.MaxSectors, api.MaxSectors + 1, 1 << 52, greatest}
)

func TestP10_1Stamp(t *testing.T) {
	for _, life := range goodLives {
		for _, n := range goodSectors {
			stamp := new(big.Int).Mul(big.NewInt(int64(life)), big.NewInt(4096))
			stamp.Add(stamp, big.NewInt(int64(n)))
			if got := wal.Stamp(life, n); got != stamp.Uint64() {
				t.Errorf("Stamp(%d, %d): %d, want %d", life, n, got, stamp)
			}
		}
	}
	eachWrongPlace(func(life, n int) {
		if got := wal.Stamp(life, n); got != 0 {
			t.Errorf("Stamp(%d, %d): %d, want 0", life, n, got)
		}
	})
}

// eachWrongPlace goes over lives and sectors of which one at least may not be.
func eachWrongPlace(do func(life, n int)) {
	for _, life := range badLives {
		for _, n := range append(goodSectors, badSectors...) {
			do(life, n)
		}
	}
	for _, life := range goodLives {
		for _, n := range badSectors {
			do(life, n)
		}
	}
}

func TestP10_1SectorAndUsed(t *testing.T) {
	r := rand.New(rand.NewSource(101))
	for _, life := range goodLives {
		for _, n := range goodSectors {
			for size := range api.LogBytes + 1 {
				p := randomBytes(r, size)
				s, e := wal.Sector(life, n, p)
				if !bytes.Equal(s, slowSector(life, n, p)) || e != api.OK {
					t.Fatalf("Sector(%d, %d, %d bytes): %x, %d", life, n, size, s, e)
				}
				wantUsed(t, life, n, s, p)
			}
		}
	}
	// No bytes at all are nil ones and empty ones.
	for _, p := range [][]byte{nil, {}} {
		if s, e := wal.Sector(3, 4, p); !bytes.Equal(s, slowSector(3, 4, nil)) || e != api.OK {
			t.Errorf("Sector(3, 4, none): %x, %d", s, e)
		}
	}
}

func wantUsed(t *testing.T, life, n int, s, p []byte) {
	t.Helper()
	if got, ok := wal.Used(life, n, s); !bytes.Equal(got, p) || !ok {
		t.Fatalf("Used(%d, %d, %x): %x, %v; want %x", life, n, s, got, ok, p)
	}
}

func wantUnused(t *testing.T, life, n int, s []byte) {
	t.Helper()
	if got, ok := wal.Used(life, n, s); len(got) != 0 || ok {
		t.Fatalf("Used(%d, %d, %x): %x, %v; want none, false", life, n, s, got, ok)
	}
}

func wantNoSector(t *testing.T, life, n, size int, want api.Errno) {
	t.Helper()
	if s, e := wal.Sector(life, n, make([]byte, size)); len(s) != 0 || e != want {
		t.Errorf("Sector(%d, %d, %d bytes): %x, %d; want none, %d", life, n, size, s, e, want)
	}
}

func TestP10_1SectorRefuses(t *testing.T) {
	for _, size := range []int{api.LogBytes + 1, 113, 128, 255, 256, 256 + 5, 4096, 65536} {
		wantNoSector(t, 1, 0, size, api.ErrRecord)
		wantNoSector(t, api.MaxLife, api.MaxSectors-1, size, api.ErrRecord)
	}
	eachWrongPlace(func(life, n int) {
		for _, size := range []int{0, 1, api.LogBytes, api.LogBytes + 1, 4096} {
			wantNoSector(t, life, n, size, api.ErrArg)
		}
	})
}

func TestP10_1UsedAsksForTheLength(t *testing.T) {
	s := slowSector(1, 0, []byte("abc"))
	for size := range 300 {
		if size == api.SectorBytes {
			continue
		}
		// The beginning, and the end, are those of a sector.
		long := append(bytes.Clone(s[:120]), make([]byte, 300)...)
		wantUnused(t, 1, 0, long[:size])
		if size >= 8 {
			copy(long[size-8:], s[120:])
		}
		wantUnused(t, 1, 0, long[:size])
	}
	wantUnused(t, 1, 0, nil)
	wantUnused(t, 1, 0, append(s, 0))
	wantUnused(t, 1, 0, s[:127])
	wantUsed(t, 1, 0, s, []byte("abc"))
}

func TestP10_1UsedAsksForBothStamps(t *testing.T) {
	p := []byte("some bytes")
	s := slowSector(77, 5, p)
	for bit := range 8 * api.SectorBytes {
		turned := bytes.Clone(s)
		turned[bit/8] ^= 1 << (bit % 8)
		switch at := bit / 8; {
		case at < 8 || at >= 120:
			wantUnused(t, 77, 5, turned)
		case at >= 9+len(p):
			wantUsed(t, 77, 5, turned, p)
		}
	}
	// Both stamps are the same, and another's.
	for _, other := range [][]byte{slowSector(78, 5, p), slowSector(76, 5, p), slowSector(77, 4, p), slowSector(77, 6, p), slowSector(1, 5, p), make([]byte, 128)} {
		wantUnused(t, 77, 5, other)
	}
}

func TestP10_1UsedAsksForTheCount(t *testing.T) {
	r := rand.New(rand.NewSource(102))
	for count := range 256 {
		// What stands behind the used bytes is anything.
		s := slowSector(9, 9, randomBytes(r, api.LogBytes))
		s[8] = byte(count)
		if count > api.LogBytes {
			wantUnused(t, 9, 9, s)
		} else {
			wantUsed(t, 9, 9, s, s[9:9+count])
		}
	}
}

// A sector that stands nowhere has the stamp 0, which zeros have too.
func TestP10_1UsedOfNoPlace(t *testing.T) {
	eachWrongPlace(func(life, n int) {
		wantUnused(t, life, n, make([]byte, 128))
		wantUnused(t, life, n, slowSector(life, n, []byte("p")))
		wantUnused(t, life, n, nil)
	})
}

func TestP10_1ATornSectorIsNone(t *testing.T) {
	r := rand.New(rand.NewSource(103))
	old := [][]byte{make([]byte, 128)}
	for _, life := range []int{1, 14, 15, 16, 254} {
		old = append(old, slowSector(life, 17, randomBytes(r, 111)), slowSector(life, 17, nil))
	}
	for _, before := range old {
		for _, life := range []int{255, 256, 4095, 4096, api.MaxLife} {
			fresh := slowSector(life, 17, randomBytes(r, 100))
			for size := range 129 {
				torn := joined(fresh[:size], before[size:])
				if bytes.Equal(torn, fresh) {
					wantUsed(t, life, 17, torn, fresh[9:109])
				} else {
					wantUnused(t, life, 17, torn)
				}
			}
		}
	}
}

func TestP10_2Need(t *testing.T) {
	for n := -300; n <= api.MaxRecord+300; n++ {
		if got := wal.Need(n); got != slowNeed(n) {
			t.Errorf("Need(%d): %d, want %d", n, got, slowNeed(n))
		}
	}
	for _, n := range []int{least, least + 11, -4096, 1 << 32, 1 << 62, greatest - 121, greatest} {
		if got := wal.Need(n); got != 0 {
			t.Errorf("Need(%d): %d, want 0", n, got)
		}
	}
}

func TestP10_2NoRecordNeedsMore(t *testing.T) {
	for n := 1; n <= api.MaxRecord; n++ {
		for _, lsn := range []int{1, 127, 128, 1<<56 - 1, 1 << 56, api.MaxLsn - 1, api.MaxLsn} {
			if size := len(slowRecord(lsn, make([]byte, n))); size > n+11 || size > wal.Need(n)*api.LogBytes {
				t.Fatalf("record %d of %d bytes: %d bytes in the stream", lsn, n, size)
			}
		}
	}
}
