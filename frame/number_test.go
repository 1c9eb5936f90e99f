package frame_test

import (
	"bytes"
	"encoding/binary"
	"math"
	"math/rand"
	"strings"
	"testing"

	"larder/api"
	"larder/frame"
)

func repeated(c byte, n int) []byte { return bytes.Repeat([]byte{c}, n) }

// numbers are those at which the count of bytes changes, and some between.
func numbers() []uint64 {
	r := rand.New(rand.NewSource(11))
	out := []uint64{0, 1, 2, 300, math.MaxUint64, math.MaxUint64 - 1}
	for bits := range 64 {
		out = append(out, 1<<bits-1, 1<<bits, 1<<bits+1, r.Uint64()>>bits)
	}
	return out
}

func TestP1_4PutUint(t *testing.T) {
	for _, x := range []struct {
		b    string
		n    uint64
		want string
	}{
		{"", 0, "\x00"},
		{"", 1, "\x01"},
		{"", 127, "\x7f"},
		{"", 128, "\x80\x01"},
		{"", 300, "\xac\x02"},
		{"", 16383, "\xff\x7f"},
		{"", 16384, "\x80\x80\x01"},
		{"ab", 300, "ab\xac\x02"},
		{"", 1 << 63, "\x80\x80\x80\x80\x80\x80\x80\x80\x80\x01"},
		{"", math.MaxUint64, "\xff\xff\xff\xff\xff\xff\xff\xff\xff\x01"},
	} {
		if got := frame.PutUint([]byte(x.b), x.n); string(got) != x.want {
			t.Errorf("PutUint(%q, %d): %x, want %x", x.b, x.n, got, x.want)
		}
	}
	for _, n := range numbers() {
		if got := frame.PutUint([]byte("x"), n); !bytes.Equal(got, binary.AppendUvarint([]byte("x"), n)) {
			t.Errorf("PutUint(x, %d): %x", n, got)
		}
	}
}

// wrongNumbers are bytes at whose beginning no number stands.
var wrongNumbers = []struct {
	name  string
	b     []byte
	place int
	e     api.Errno
}{
	{"none", nil, 0, api.ErrShort},
	{"cut behind one", []byte{0x80}, 1, api.ErrShort},
	{"cut behind nine", repeated(0xff, 9), 9, api.ErrShort},
	{"second byte 0", []byte{0x80, 0}, 1, api.ErrForm},
	{"third byte 0", []byte{0xff, 0x80, 0, 0xff}, 2, api.ErrForm},
	{"tenth byte 0", append(repeated(0x80, 9), 0), 9, api.ErrForm},
	{"tenth byte 2", append(repeated(0xff, 9), 2), 9, api.ErrWide},
	{"tenth byte goes on with 0", append(repeated(0x80, 9), 0x80, 1), 9, api.ErrWide},
	{"tenth byte goes on with 1", append(repeated(0x80, 9), 0x81), 9, api.ErrWide},
	{"far too many", repeated(0xff, 100), 9, api.ErrWide},
}

func TestP1_4Uint(t *testing.T) {
	for _, x := range []struct {
		b    []byte
		n    uint64
		took int
	}{
		{[]byte{0}, 0, 1},
		{[]byte{0, 0}, 0, 1},
		{[]byte{0xac, 2, 0xff}, 300, 2},
		{append(repeated(0xff, 9), 1), math.MaxUint64, 10},
		{append(repeated(0x80, 9), 1, 0), 1 << 63, 10},
		{append(repeated(0x80, 8), 1), 1 << 56, 9},
	} {
		if n, took, e := frame.Uint(x.b); n != x.n || took != x.took || e != api.OK {
			t.Errorf("Uint(%x): %d, %d, %d", x.b, n, took, e)
		}
	}
	for _, x := range wrongNumbers {
		if n, place, e := frame.Uint(x.b); n != 0 || place != x.place || e != x.e {
			t.Errorf("%s: Uint: %d, %d, %d; want %d, %d", x.name, n, place, e, x.place, x.e)
		}
	}
}

func TestP1_5PutInt(t *testing.T) {
	for _, x := range []struct {
		n    int
		want uint64
	}{
		{0, 0}, {-1, 1}, {1, 2}, {-2, 3}, {2, 4}, {-64, 127}, {64, 128},
		{math.MaxInt, math.MaxUint64 - 1}, {math.MinInt, math.MaxUint64}, {math.MinInt + 1, math.MaxUint64 - 2},
	} {
		b := frame.PutInt([]byte("b"), x.n)
		if !bytes.Equal(b, frame.PutUint([]byte("b"), x.want)) {
			t.Errorf("PutInt(b, %d): %x", x.n, b)
		}
		for _, behind := range []string{"", "\xff"} {
			if n, took, e := frame.Int(append(bytes.Clone(b[1:]), behind...)); n != x.n || took != len(b)-1 || e != api.OK {
				t.Errorf("Int of %d: %d, %d, %d", x.n, n, took, e)
			}
		}
	}
}

func TestP1_5IntOfWrongBytes(t *testing.T) {
	if n, took, e := frame.Int(append(repeated(0xff, 9), 1)); n != math.MinInt || took != 10 || e != api.OK {
		t.Errorf("the least int: %d, %d, %d", n, took, e)
	}
	for _, x := range wrongNumbers {
		if n, place, e := frame.Int(x.b); n != 0 || place != x.place || e != x.e {
			t.Errorf("%s: Int: %d, %d, %d; want %d, %d", x.name, n, place, e, x.place, x.e)
		}
	}
}

func TestP1_6Word(t *testing.T) {
	if b := frame.PutWord(nil, 258); string(b) != "\x02\x01\x00\x00\x00\x00\x00\x00" {
		t.Errorf("PutWord(none, 258): %x", b)
	}
	if b := frame.PutWord([]byte("ab"), 0x0807060504030201); string(b) != "ab\x01\x02\x03\x04\x05\x06\x07\x08" {
		t.Errorf("PutWord: %x", b)
	}
	for _, n := range numbers() {
		b := frame.PutWord(nil, n)
		if len(b) != 8 {
			t.Errorf("PutWord(none, %d): %x", n, b)
		}
		for _, behind := range []string{"", "\xff"} {
			if got, e := frame.Word(append(bytes.Clone(b), behind...)); got != n || e != api.OK {
				t.Errorf("Word of %d: %d, %d", n, got, e)
			}
		}
	}
	for n := range 8 {
		if got, e := frame.Word(repeated(0xff, n)); got != 0 || e != api.ErrShort {
			t.Errorf("Word of %d bytes: %d, %d", n, got, e)
		}
	}
}

func TestP1_7PutText(t *testing.T) {
	for _, x := range []struct{ b, s, want string }{
		{"", "", "\x00"},
		{"", "ab", "\x02ab"},
		{"\x05", "\x00\xff", "\x05\x02\x00\xff"},
		{"", strings.Repeat("z", 128), "\x80\x01" + strings.Repeat("z", 128)},
	} {
		if got := frame.PutText([]byte(x.b), x.s); string(got) != x.want {
			t.Errorf("PutText(%q, %q): %x", x.b, x.s, got)
		}
	}
}

func TestP1_7Text(t *testing.T) {
	huge := string(append(repeated(0xff, 9), 1))
	most := string(append(repeated(0xff, 8), 0x7f))
	for _, x := range []struct {
		b    string
		most int
		s    string
		at   int
		e    api.Errno
	}{
		{"\x00", 0, "", 1, api.OK},
		{"\x02ab", 2, "ab", 3, api.OK},
		{"\x02abc", math.MaxInt, "ab", 3, api.OK},
		{"", -1, "", 0, api.ErrArg},
		{"\x02ab", math.MinInt, "", 0, api.ErrArg},
		{"\x80\x00", -1, "", 0, api.ErrArg},
		{"\x02ab", 1, "", 0, api.ErrLength},
		{"\x02", 1, "", 0, api.ErrLength},
		{"\x01a", 0, "", 0, api.ErrLength},
		{"\x02a", 9, "", 2, api.ErrShort},
		{"\x02", 2, "", 1, api.ErrShort},
		{huge, math.MaxInt, "", 0, api.ErrLength},
		{most + "abc", math.MaxInt, "", 12, api.ErrShort},
	} {
		if s, at, e := frame.Text([]byte(x.b), x.most); s != x.s || at != x.at || e != x.e {
			t.Errorf("Text(%x, %d): %q, %d, %d; want %q, %d, %d", x.b, x.most, s, at, e, x.s, x.at, x.e)
		}
	}
	for _, x := range wrongNumbers {
		if s, place, e := frame.Text(x.b, 0); s != "" || place != x.place || e != x.e {
			t.Errorf("%s: Text: %q, %d, %d; want %d, %d", x.name, s, place, e, x.place, x.e)
		}
	}
}

func TestP1_15NumbersThereAndBack(t *testing.T) {
	for _, n := range numbers() {
		b := frame.PutUint(nil, n)
		for _, behind := range []string{"", "\x00", "\x80", "\xff\xff"} {
			if got, took, e := frame.Uint(append(bytes.Clone(b), behind...)); got != n || took != len(b) || e != api.OK {
				t.Errorf("Uint of %d: %d, %d, %d", n, got, took, e)
			}
			for _, i := range []int{int(n), -int(n)} {
				c := frame.PutInt(nil, i)
				if got, took, e := frame.Int(append(bytes.Clone(c), behind...)); got != i || took != len(c) || e != api.OK {
					t.Errorf("Int of %d: %d, %d, %d", i, got, took, e)
				}
			}
		}
	}
}

func TestP1_15TextsThereAndBack(t *testing.T) {
	r := rand.New(rand.NewSource(12))
	for _, n := range []int{0, 1, 2, 127, 128, 129, 16383, 16384} {
		s := string(randomBytes(r, n))
		b := frame.PutText(nil, s)
		for _, behind := range []string{"", "\x80\x00"} {
			if got, took, e := frame.Text(append(bytes.Clone(b), behind...), n); got != s || took != len(b) || e != api.OK {
				t.Errorf("Text of %d bytes: %d bytes, %d, %d", n, len(got), took, e)
			}
		}
	}
}

// Short random bytes are often read, so that the other direction is tried too.
func TestP1_15WhatIsReadIsWhatWouldBeWritten(t *testing.T) {
	r := rand.New(rand.NewSource(13))
	read := 0
	for range 20000 {
		b := randomBytes(r, r.Intn(12))
		for i := range r.Intn(len(b) + 1) {
			b[i] |= 0x80
		}
		if n, took, e := frame.Uint(b); e == api.OK {
			read++
			if !bytes.Equal(frame.PutUint(nil, n), b[:took]) {
				t.Errorf("Uint(%x): %d", b, n)
			}
		}
		if n, took, e := frame.Int(b); e == api.OK && !bytes.Equal(frame.PutInt(nil, n), b[:took]) {
			t.Errorf("Int(%x): %d", b, n)
		}
		if s, took, e := frame.Text(b, math.MaxInt); e == api.OK && !bytes.Equal(frame.PutText(nil, s), b[:took]) {
			t.Errorf("Text(%x): %q", b, s)
		}
	}
	if read < 1000 {
		t.Errorf("only %d numbers were read", read)
	}
}
