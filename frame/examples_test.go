package frame_test

import (
	"math"
	"testing"

	"larder/api"
	"larder/frame"
)

// The examples of section 1.6, in their order.

func TestExample1And2Sums(t *testing.T) {
	nine := []byte("123456789")
	if frame.Crc(nine) != 0xe3069283 || frame.CrcOn(frame.Crc(nine[:4]), nine[4:]) != 0xe3069283 {
		t.Error("Crc, CrcOn")
	}
	wantJoin(t, frame.Crc(nine[:4]), frame.Crc(nine[4:]), 5, 0xe3069283, api.OK)
	wantJoin(t, 7, 9, 0, 14, api.OK)
	wantJoin(t, 0, 5, 1000, 5, api.OK)
	wantJoin(t, 1, 1, -1, 0, api.ErrArg)
	wantTurned(t, []byte("123456788"), 0xe3069283, 64, true)
	wantTurned(t, nine, 0xe3069283, -1, false)
}

func TestExample3And4Numbers(t *testing.T) {
	nine := string(repeated(0xff, 9))
	for _, x := range []struct {
		b  string
		n  uint64
		at int
		e  api.Errno
	}{
		{"\xac\x02\xff", 300, 2, api.OK},
		{"\x80\x00", 0, 1, api.ErrForm},
		{"\x80", 0, 1, api.ErrShort},
		{nine + "\x01", math.MaxUint64, 10, api.OK},
		{nine + "\x02", 0, 9, api.ErrWide},
		{string(repeated(0x80, 9)) + "\x00", 0, 9, api.ErrForm},
	} {
		if n, at, e := frame.Uint([]byte(x.b)); n != x.n || at != x.at || e != x.e {
			t.Errorf("Uint(%x): %d, %d, %d", x.b, n, at, e)
		}
	}
	if n, at, e := frame.Int([]byte(nine + "\x01")); n != math.MinInt || at != 10 || e != api.OK {
		t.Errorf("Int: %d, %d, %d", n, at, e)
	}
	if string(frame.PutUint(nil, 300)) != "\xac\x02" || string(frame.PutInt(nil, -1)) != "\x01" || string(frame.PutWord(nil, 258)) != "\x02\x01\x00\x00\x00\x00\x00\x00" {
		t.Error("PutUint, PutInt, PutWord")
	}
}

func TestExample5Texts(t *testing.T) {
	if string(frame.PutText(nil, "ab")) != "\x02ab" {
		t.Error("PutText")
	}
	for _, x := range []struct {
		b        string
		most, at int
		e        api.Errno
	}{
		{"\x02a", 9, 2, api.ErrShort}, {"\x02ab", 1, 0, api.ErrLength}, {"", -1, 0, api.ErrArg},
	} {
		if s, at, e := frame.Text([]byte(x.b), x.most); s != "" || at != x.at || e != x.e {
			t.Errorf("Text(%x, %d): %q, %d, %d", x.b, x.most, s, at, e)
		}
	}
}

func TestExample6And7Frames(t *testing.T) {
	if b := sealed(t, nil); len(b) != 6 || string(b[:2]) != "\xa7\x00" {
		t.Errorf("Seal(none): %x", b)
	}
	wantFault(t, "none", nil, api.ErrShort, 0)
	wantFault(t, "a6", []byte{0xa6}, api.ErrMark, 0)
	wantFault(t, "a7 80 00", []byte{0xa7, 0x80, 0}, api.ErrForm, 2)
	wantFault(t, "a7 81 80 04", []byte{0xa7, 0x81, 0x80, 4}, api.ErrLength, 1)
	wantFault(t, "a7 02 61", []byte{0xa7, 2, 0x61}, api.ErrShort, 3)
	row := append(sealed(t, []byte("load")), 0xa7)
	if loads, e, at := frame.Scan(row); len(loads) != 1 || string(loads[0]) != "load" || e != api.ErrShort || at != len(row) {
		t.Errorf("Scan: %q, %d, %d", loads, e, at)
	}
	r := frame.NewReader()
	wantFeed(t, r, string(row), []string{"load"}, api.OK, 0)
	wantClose(t, r, api.ErrShort, len(row))
}
