package frame_test

import (
	"bytes"
	"hash/crc32"
	"math"
	"math/rand"
	"testing"

	"larder/api"
	"larder/frame"
)

// slowRegister moves a register over p bit by bit, as section 1.1 tells it.
func slowRegister(register uint32, p []byte) uint32 {
	for _, b := range p {
		register ^= uint32(b)
		for range 8 {
			left := register & 1
			register >>= 1
			if left == 1 {
				register ^= 0x82f63b78
			}
		}
	}
	return register
}

func randomBytes(r *rand.Rand, n int) []byte {
	p := make([]byte, n)
	r.Read(p)
	return p
}

func joined(parts ...[]byte) []byte { return bytes.Join(parts, nil) }

func turnBit(p []byte, bit int) { p[bit/8] ^= 1 << (bit % 8) }

func wantJoin(t *testing.T, a, b uint32, n int, want uint32, wantE api.Errno) {
	t.Helper()
	if c, e := frame.CrcJoin(a, b, n); c != want || e != wantE {
		t.Errorf("CrcJoin(%x, %x, %d): %x, %d; want %x, %d", a, b, n, c, e, want, wantE)
	}
}

func wantTurned(t *testing.T, p []byte, c uint32, want int, wantOk bool) {
	t.Helper()
	if bit, ok := frame.Turned(p, c); bit != want || ok != wantOk {
		t.Errorf("Turned of %d bytes: %d, %v; want %d, %v", len(p), bit, ok, want, wantOk)
	}
}

func TestP1_1CrcIsTheSum(t *testing.T) {
	if c := frame.Crc(nil); c != 0 {
		t.Errorf("Crc of no bytes: %x", c)
	}
	if c := frame.Crc([]byte("123456789")); c != 0xe3069283 {
		t.Errorf("Crc of the nine digits: %x", c)
	}
	for b := range 256 {
		p := []byte{byte(b)}
		if c := frame.Crc(p); c != ^slowRegister(math.MaxUint32, p) {
			t.Errorf("Crc of the byte %x: %x", b, c)
		}
	}
	r := rand.New(rand.NewSource(1))
	castagnoli := crc32.MakeTable(crc32.Castagnoli)
	for n := range 300 {
		p := randomBytes(r, n)
		c := frame.Crc(p)
		if c != ^slowRegister(math.MaxUint32, p) || c != crc32.Checksum(p, castagnoli) {
			t.Errorf("Crc of %x: %x", p, c)
		}
	}
}

func TestP1_1CrcOnGoesOnFromAnySum(t *testing.T) {
	if c := frame.CrcOn(frame.Crc([]byte("1234")), []byte("56789")); c != 0xe3069283 {
		t.Errorf("CrcOn: %x", c)
	}
	r := rand.New(rand.NewSource(2))
	for _, from := range []uint32{0, 1, 1 << 31, math.MaxUint32, r.Uint32(), r.Uint32()} {
		if c := frame.CrcOn(from, nil); c != from {
			t.Errorf("CrcOn(%x, none): %x", from, c)
		}
		for n := range 40 {
			p := randomBytes(r, n)
			if c := frame.CrcOn(from, p); c != ^slowRegister(^from, p) {
				t.Errorf("CrcOn(%x, %x): %x", from, p, c)
			}
		}
	}
}

func TestP1_2CrcJoin(t *testing.T) {
	nine := []byte("123456789")
	wantJoin(t, frame.Crc(nine[:4]), frame.Crc(nine[4:]), 5, 0xe3069283, api.OK)
	wantJoin(t, 7, 9, 0, 14, api.OK)
	wantJoin(t, 0, 5, 1000, 5, api.OK)
	wantJoin(t, 0, 0, 0, 0, api.OK)
}

func TestP1_2CrcJoinWrongNumbers(t *testing.T) {
	for _, n := range []int{-1, math.MinInt, api.MaxJoin + 1, math.MaxInt} {
		wantJoin(t, 1, 1, n, 0, api.ErrArg)
		wantJoin(t, 0, 5, n, 0, api.ErrArg)
	}
}

// Few bytes do not have every sum, so most of these b are the sum of no n bytes.
func TestP1_2CrcJoinOfAnyNumbers(t *testing.T) {
	r := rand.New(rand.NewSource(3))
	for n := range 600 {
		a, b := r.Uint32(), r.Uint32()
		wantJoin(t, a, b, n, b^slowRegister(a, make([]byte, n)), api.OK)
	}
}

// A register over bytes 0 comes round after 2^31 - 1 of them, so that MaxJoin bytes 0 do what 2^9 of them do.
func TestP1_2CrcJoinOfManyBytes(t *testing.T) {
	const round = 1<<31 - 1
	r := rand.New(rand.NewSource(4))
	for range 20 {
		a, b := r.Uint32(), r.Uint32()
		wantJoin(t, a, b, api.MaxJoin, b^slowRegister(a, make([]byte, 512)), api.OK)
		wantJoin(t, a, b, api.MaxJoin-1, b^slowRegister(a, make([]byte, 511)), api.OK)
		wantJoin(t, a, b, round, b^a, api.OK)
		wantJoin(t, a, b, 17*round+3, b^slowRegister(a, make([]byte, 3)), api.OK)
	}
}

func TestP1_3Turned(t *testing.T) {
	wantTurned(t, []byte("123456788"), 0xe3069283, 64, true)
	wantTurned(t, []byte("123456789"), 0xe3069283, -1, false)
	r := rand.New(rand.NewSource(5))
	for _, n := range []int{1, 2, 3, 4, 5, 31, 100} {
		p := randomBytes(r, n)
		c := frame.Crc(p)
		for bit := range 8 * n {
			turnBit(p, bit)
			wantTurned(t, p, c, bit, true)
			turnBit(p, bit)
		}
	}
}

func TestP1_3TurnedFindsNothing(t *testing.T) {
	for _, c := range []uint32{0, 1, 0x82f63b78, math.MaxUint32} {
		wantTurned(t, nil, c, -1, false)
	}
	r := rand.New(rand.NewSource(6))
	p := randomBytes(r, 50)
	c := frame.Crc(p)
	wantTurned(t, p, c, -1, false)
	for range 200 {
		one, two := r.Intn(400), r.Intn(400)
		if one == two {
			continue
		}
		damaged := bytes.Clone(p)
		turnBit(damaged, one)
		turnBit(damaged, two)
		wantTurned(t, damaged, c, -1, false)
	}
}

func TestP1_3TurnedUpToMaxFrame(t *testing.T) {
	r := rand.New(rand.NewSource(7))
	for _, n := range []int{api.MaxFrame - 1, api.MaxFrame, api.MaxFrame + 1} {
		p := randomBytes(r, n)
		c := frame.Crc(p)
		for _, bit := range []int{0, 7, 4 * n, 8*n - 1} {
			turnBit(p, bit)
			if n > api.MaxFrame {
				wantTurned(t, p, c, -1, false)
			} else {
				wantTurned(t, p, c, bit, true)
			}
			turnBit(p, bit)
		}
	}
}

func TestP1_12CutsHaveNoPartInTheSum(t *testing.T) {
	r := rand.New(rand.NewSource(8))
	p := randomBytes(r, 200)
	whole := frame.Crc(p)
	for cut := range len(p) + 1 {
		x, y := p[:cut], p[cut:]
		if c := frame.CrcOn(frame.Crc(x), y); c != whole {
			t.Errorf("CrcOn at %d: %x", cut, c)
		}
		wantJoin(t, frame.Crc(x), frame.Crc(y), len(y), whole, api.OK)
	}
}

func TestP1_13TheSumIsEvenHanded(t *testing.T) {
	r := rand.New(rand.NewSource(9))
	for n := range 100 {
		x, y, z := randomBytes(r, n), randomBytes(r, n), randomBytes(r, n)
		all := make([]byte, n)
		for i := range all {
			all[i] = x[i] ^ y[i] ^ z[i]
		}
		if frame.Crc(x)^frame.Crc(y)^frame.Crc(z) != frame.Crc(all) {
			t.Errorf("%d bytes: %x, %x, %x", n, x, y, z)
		}
	}
}
