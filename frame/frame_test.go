package frame_test

import (
	"bytes"
	"math/rand"
	"testing"

	"larder/api"
	"larder/frame"
)

func sealed(t *testing.T, p []byte) []byte {
	t.Helper()
	b, e := frame.Seal(p)
	if e != api.OK {
		t.Fatalf("Seal of %d bytes: %d", len(p), e)
	}
	return b
}

// byHand puts a frame together from its parts, with a sum that fits.
func byHand(head string, load []byte) []byte {
	b := append([]byte(head), load...)
	c := ^slowRegister(1<<32-1, b)
	return append(b, byte(c), byte(c>>8), byte(c>>16), byte(c>>24))
}

func sameLists(a, b [][]byte) bool {
	if len(a) != len(b) {
		return false
	}
	for i := range a {
		if !bytes.Equal(a[i], b[i]) {
			return false
		}
	}
	return true
}

func wantFault(t *testing.T, name string, b []byte, wantE api.Errno, wantAt int) {
	t.Helper()
	if p, n, e, at := frame.Unseal(b); len(p) != 0 || n != 0 || e != wantE || at != wantAt {
		t.Errorf("%s: Unseal: %x, %d, %d, %d; want error %d at %d", name, p, n, e, at, wantE, wantAt)
	}
}

func TestP1_8Seal(t *testing.T) {
	r := rand.New(rand.NewSource(21))
	for _, x := range []struct {
		head string
		load []byte
	}{
		{"\xa7\x00", nil},
		{"\xa7\x04", []byte("load")},
		{"\xa7\x7f", randomBytes(r, 127)},
		{"\xa7\x80\x01", randomBytes(r, 128)},
		{"\xa7\xff\x7f", randomBytes(r, 16383)},
		{"\xa7\x80\x80\x01", randomBytes(r, 16384)},
		{"\xa7\x80\x80\x04", randomBytes(r, api.MaxFrame)},
	} {
		if b, e := frame.Seal(x.load); e != api.OK || !bytes.Equal(b, byHand(x.head, x.load)) {
			t.Errorf("Seal of %d bytes: %d, %d bytes", len(x.load), e, len(b))
		}
	}
	for _, n := range []int{api.MaxFrame + 1, 2 * api.MaxFrame} {
		if b, e := frame.Seal(make([]byte, n)); len(b) != 0 || e != api.ErrLong {
			t.Errorf("Seal of %d bytes: %d bytes, %d", n, len(b), e)
		}
	}
}

func TestP1_8Unseal(t *testing.T) {
	r := rand.New(rand.NewSource(22))
	for _, n := range []int{0, 1, 127, 128, 16384, api.MaxFrame} {
		load := randomBytes(r, n)
		b := sealed(t, load)
		for _, behind := range []string{"", "\x00", "\xa7", "more behind it"} {
			if p, size, e, at := frame.Unseal(append(bytes.Clone(b), behind...)); !bytes.Equal(p, load) || size != len(b) || e != api.OK || at != 0 {
				t.Errorf("Unseal of %d bytes: %d bytes, %d, %d, %d", n, len(p), size, e, at)
			}
		}
	}
}

func TestP1_8UnsealFaults(t *testing.T) {
	whole := sealed(t, []byte("load"))
	nines := string(repeated(0xff, 9))
	for _, x := range []struct {
		name string
		b    string
		e    api.Errno
		at   int
	}{
		{"none", "", api.ErrShort, 0},
		{"another mark", "\xa6", api.ErrMark, 0},
		{"another mark with a frame behind it", "\x00" + string(whole), api.ErrMark, 0},
		{"the mark alone", "\xa7", api.ErrShort, 1},
		{"half a number", "\xa7\x80", api.ErrShort, 2},
		{"a long half number, though it must be too large", "\xa7\xff\xff\xff\xff", api.ErrShort, 5},
		{"a number in too many bytes", "\xa7\x80\x00", api.ErrForm, 2},
		{"a number too wide", "\xa7" + nines + "\x02", api.ErrWide, 10},
		{"a number in too many bytes, the tenth 0", "\xa7" + nines + "\x00", api.ErrForm, 10},
		{"the widest number", "\xa7" + nines + "\x01", api.ErrLength, 1},
		{"one above MaxFrame", "\xa7\x81\x80\x04", api.ErrLength, 1},
		{"MaxFrame and nothing more", "\xa7\x80\x80\x04", api.ErrShort, 4},
		{"a load that is cut", "\xa7\x02a", api.ErrShort, 3},
	} {
		wantFault(t, x.name, []byte(x.b), x.e, x.at)
	}
	wantFault(t, "one above MaxFrame, sealed by hand", byHand("\xa7\x81\x80\x04", make([]byte, api.MaxFrame+1)), api.ErrLength, 1)
	wantFault(t, "sealed by hand with a number in too many bytes", byHand("\xa7\x84\x00", []byte("load")), api.ErrForm, 2)
}

func TestP1_8UnsealOfEveryBeginning(t *testing.T) {
	for _, n := range []int{0, 3, 128} {
		b := sealed(t, repeated('x', n))
		for cut := range b {
			wantFault(t, "cut", b[:cut], api.ErrShort, cut)
		}
	}
}

func TestP1_8UnsealTellsTheSumsPlace(t *testing.T) {
	for _, n := range []int{0, 4, 128} {
		b := sealed(t, repeated('x', n))
		for i := len(b) - n - 4; i < len(b); i++ {
			damaged := bytes.Clone(b)
			damaged[i] ^= 0x55
			wantFault(t, "damaged", damaged, api.ErrSum, len(b)-4)
		}
	}
}

func TestP1_9Scan(t *testing.T) {
	a, none, c := sealed(t, []byte("a")), sealed(t, nil), sealed(t, repeated('c', 200))
	row := joined(a, none, c)
	damaged := bytes.Clone(row)
	damaged[len(row)-1] ^= 1
	for _, x := range []struct {
		name  string
		b     []byte
		loads []string
		e     api.Errno
		at    int
	}{
		{"no bytes", nil, nil, api.OK, 0},
		{"one", a, []string{"a"}, api.OK, 0},
		{"three", row, []string{"a", "", string(repeated('c', 200))}, api.OK, 0},
		{"a frame and its mark", joined(a, []byte{0xa7}), []string{"a"}, api.ErrShort, len(a) + 1},
		{"a frame and no mark", joined(a, none, []byte("x"), c), []string{"a", ""}, api.ErrMark, len(a) + len(none)},
		{"a fault at once", []byte("x"), nil, api.ErrMark, 0},
		{"a number in too many bytes", joined(a, []byte{0xa7, 0x80, 0}), []string{"a"}, api.ErrForm, len(a) + 2},
		{"a length above MaxFrame", joined(none, []byte{0xa7, 0x81, 0x80, 4}, a), []string{""}, api.ErrLength, len(none) + 1},
		{"a wrong sum at the end", damaged, []string{"a", ""}, api.ErrSum, len(row) - 4},
	} {
		var want [][]byte
		for _, l := range x.loads {
			want = append(want, []byte(l))
		}
		if loads, e, at := frame.Scan(x.b); !sameLists(loads, want) || e != x.e || at != x.at {
			t.Errorf("%s: Scan: %q, %d, %d; want %q, %d, %d", x.name, loads, e, at, want, x.e, x.at)
		}
	}
}

func TestP1_9ScanOfEveryBeginning(t *testing.T) {
	frames := [][]byte{sealed(t, []byte("a")), sealed(t, nil), sealed(t, []byte("ccc"))}
	row := joined(frames...)
	ends := map[int]int{0: 0}
	for i, end := 0, 0; i < len(frames); i++ {
		end += len(frames[i])
		ends[end] = i + 1
	}
	whole := 0
	for cut := range len(row) + 1 {
		wantE, wantAt := api.ErrShort, cut
		if n, ok := ends[cut]; ok {
			whole, wantE, wantAt = n, api.OK, 0
		}
		if loads, e, at := frame.Scan(row[:cut]); len(loads) != whole || e != wantE || at != wantAt {
			t.Errorf("Scan of %d bytes: %q, %d, %d", cut, loads, e, at)
		}
	}
}

func TestP1_9EachGoesOverTheFramesOfScan(t *testing.T) {
	a, none, c := sealed(t, []byte("a")), sealed(t, nil), sealed(t, []byte("ccc"))
	for _, tail := range []string{"", "x", "\xa7", "\xa7\x80\x00", "\xa7\x81\x80\x04", "\xa7\x00abcd"} {
		row := joined(a, none, c, []byte(tail), a)
		if tail == "\xa7" {
			row = row[:len(row)-len(a)]
		}
		want, _, _ := frame.Scan(row)
		var loads [][]byte
		begin := 0
		for at, load := range frame.Each(row) {
			if at != begin {
				t.Errorf("tail %q: frame %d begins at %d, want %d", tail, len(loads), at, begin)
			}
			loads = append(loads, load)
			begin += len(sealed(t, load))
		}
		if !sameLists(loads, want) {
			t.Errorf("tail %q: Each: %q, want %q", tail, loads, want)
		}
	}
	for range frame.Each(nil) {
		t.Error("Each of no bytes goes over something")
	}
}

func TestP1_14WhatTheSumAlwaysTells(t *testing.T) {
	r := rand.New(rand.NewSource(23))
	for _, n := range []int{0, 1, 5, 40, 300} {
		b := sealed(t, randomBytes(r, n))
		begin, end := 8*(len(b)-n-4), 8*len(b)
		tell := func(name string, bits ...int) {
			t.Helper()
			damaged := bytes.Clone(b)
			for _, bit := range bits {
				turnBit(damaged, bit)
			}
			wantFault(t, name, damaged, api.ErrSum, len(b)-4)
		}
		for bit := begin; bit < end; bit++ {
			tell("one bit", bit)
		}
		for range 300 {
			some := r.Perm(end - begin)
			for i := range some {
				some[i] += begin
			}
			tell("two bits", some[:2]...)
			tell("three bits", some[:3]...)
			tell("an odd number of bits", some[:1+2*r.Intn(len(some)/2)]...)
			burst := begin + r.Intn(end-begin-31)
			bits := []int{burst + r.Intn(32)}
			for bit := burst; bit < burst+32; bit++ {
				if bit != bits[0] && r.Intn(2) == 0 {
					bits = append(bits, bit)
				}
			}
			tell("a burst", bits...)
		}
	}
}

func TestP1_14TurnedFindsEachTurnedBit(t *testing.T) {
	b := sealed(t, []byte("a load of some bytes"))
	front, sum := b[:len(b)-4], frame.Crc(b[:len(b)-4])
	for bit := 16; bit < 8*len(front); bit++ {
		damaged := bytes.Clone(front)
		turnBit(damaged, bit)
		wantTurned(t, damaged, sum, bit, true)
	}
	whole := frame.Crc(b)
	for bit := 16; bit < 8*len(b); bit++ {
		damaged := bytes.Clone(b)
		turnBit(damaged, bit)
		wantTurned(t, damaged, whole, bit, true)
	}
}

func TestP1_15FramesThereAndBack(t *testing.T) {
	r := rand.New(rand.NewSource(24))
	for _, n := range []int{0, 1, 2, 127, 128, 129, 1000, 16383, 16384, api.MaxFrame - 1, api.MaxFrame} {
		load := randomBytes(r, n)
		b := append(sealed(t, load), randomBytes(r, 5)...)
		p, size, e, _ := frame.Unseal(b)
		if e != api.OK || !bytes.Equal(p, load) || !bytes.Equal(sealed(t, p), b[:size]) {
			t.Errorf("%d bytes: %d, %d bytes, %d", n, e, len(p), size)
		}
	}
}

func TestP1_15NoFrameBeginsAnother(t *testing.T) {
	var frames [][]byte
	for n := range 6 {
		for _, c := range []byte{0, 1, 0xa7} {
			frames = append(frames, sealed(t, repeated(c, n)))
		}
	}
	frames = append(frames, sealed(t, sealed(t, nil)), sealed(t, make([]byte, 128)), sealed(t, make([]byte, 16384)))
	for _, a := range frames {
		for _, b := range frames {
			if len(a) < len(b) && bytes.HasPrefix(b, a) {
				t.Errorf("%x begins %x", a, b)
			}
		}
	}
}
