package frame_test

import (
	"bytes"
	"math/rand"
	"testing"

	"larder/api"
	"larder/frame"
)

func wantFeed(t *testing.T, r *frame.Reader, p string, wantLoads []string, wantE api.Errno, wantAt int) {
	t.Helper()
	loads, e, at := r.Feed([]byte(p))
	same := len(loads) == len(wantLoads)
	for i := 0; same && i < len(loads); i++ {
		same = string(loads[i]) == wantLoads[i]
	}
	if !same || e != wantE || at != wantAt {
		t.Errorf("Feed(%x): %q, %d, %d; want %q, %d, %d", p, loads, e, at, wantLoads, wantE, wantAt)
	}
}

func wantClose(t *testing.T, r *frame.Reader, wantE api.Errno, wantAt int) {
	t.Helper()
	if e, at := r.Close(); e != wantE || at != wantAt {
		t.Errorf("Close: %d, %d; want %d, %d", e, at, wantE, wantAt)
	}
}

// feedPieces holds each answer of a Reader against Scan of all that came.
func feedPieces(t *testing.T, pieces [][]byte) {
	t.Helper()
	r := frame.NewReader()
	var all []byte
	told := 0
	for i, p := range pieces {
		all = append(all, p...)
		want, wantE, wantAt := frame.Scan(all)
		closeE, closeAt := wantE, wantAt
		if wantE == api.ErrShort {
			wantE, wantAt = api.OK, 0
		}
		loads, e, at := r.Feed(p)
		if !sameLists(loads, want[told:]) || e != wantE || at != wantAt {
			t.Fatalf("piece %d of %x: %q, %d, %d; want %q, %d, %d", i, pieces, loads, e, at, want[told:], wantE, wantAt)
		}
		told = len(want)
		if i == len(pieces)-1 {
			wantClose(t, r, closeE, closeAt)
		}
	}
}

func someRow(t *testing.T, r *rand.Rand) []byte {
	var row []byte
	for range r.Intn(5) {
		row = append(row, sealed(t, randomBytes(r, r.Intn(140)))...)
	}
	switch r.Intn(4) {
	case 0:
		if len(row) > 0 {
			row[r.Intn(len(row))] ^= 1 << r.Intn(8)
		}
	case 1:
		row = row[:r.Intn(len(row)+1)]
	case 2:
		row = append(row, randomBytes(r, 4)...)
	}
	return row
}

func cutUp(r *rand.Rand, row []byte) [][]byte {
	var pieces [][]byte
	for len(row) > 0 {
		n := r.Intn(min(len(row), 1+r.Intn(60)) + 1)
		pieces = append(pieces, row[:n])
		row = row[n:]
	}
	return append(pieces, nil)
}

func TestP1_10ReaderTellsWhatScanTells(t *testing.T) {
	r := rand.New(rand.NewSource(31))
	for range 3000 {
		row := someRow(t, r)
		feedPieces(t, cutUp(r, row))
	}
}

func TestP1_10ReaderOfEveryCut(t *testing.T) {
	a, none, c := sealed(t, []byte("a")), sealed(t, nil), sealed(t, repeated('c', 130))
	for _, tail := range []string{"", "x", "\xa7", "\xa7\x80", "\xa7\x80\x00", "\xa7\x81\x80\x04", "\xa7\x00abcdef", "\xa7" + string(repeated(0xff, 9)) + "\x02"} {
		row := joined(a, none, c, []byte(tail))
		for cut := range len(row) + 1 {
			feedPieces(t, [][]byte{row[:cut], row[cut:]})
		}
		var bytewise [][]byte
		for i := range row {
			bytewise = append(bytewise, row[i:i+1])
		}
		feedPieces(t, bytewise)
	}
}

func TestP1_10ReaderOfTheLargestFrame(t *testing.T) {
	b := sealed(t, repeated('m', api.MaxFrame))
	feedPieces(t, [][]byte{b, b[:len(b)-1], b[len(b)-1:], byHand("\xa7\x81\x80\x04", make([]byte, api.MaxFrame+1))})
}

func TestP1_10AFaultStays(t *testing.T) {
	a := string(sealed(t, []byte("a")))
	for _, x := range []struct {
		fault string
		e     api.Errno
		at    int
	}{
		{"\xa6", api.ErrMark, 0},
		{"\xa7\x80\x00", api.ErrForm, 2},
		{"\xa7\xff\xff\xff\xff\xff\xff\xff\xff\xff\x02", api.ErrWide, 10},
		{"\xa7\x81\x80\x04", api.ErrLength, 1},
		{"\xa7\x00abcd", api.ErrSum, 2},
	} {
		r := frame.NewReader()
		at := 2*len(a) + x.at
		wantFeed(t, r, a, []string{"a"}, api.OK, 0)
		wantFeed(t, r, a+x.fault+a, []string{"a"}, x.e, at)
		wantFeed(t, r, a, nil, x.e, at)
		wantFeed(t, r, "", nil, x.e, at)
		wantFeed(t, r, "\xa6", nil, x.e, at)
		wantClose(t, r, x.e, at)
		wantFeed(t, r, a, nil, api.ErrDone, 0)
		wantClose(t, r, api.ErrDone, 0)
	}
}

func TestP1_10AWrongSumShowsAtItsLastByte(t *testing.T) {
	r := frame.NewReader()
	wantFeed(t, r, "\xa7\x00abc", nil, api.OK, 0)
	wantFeed(t, r, "d", nil, api.ErrSum, 2)
}

func TestP1_10BehindClose(t *testing.T) {
	a := string(sealed(t, []byte("a")))
	for _, x := range []struct {
		came  string
		loads []string
		e     api.Errno
		at    int
	}{
		{"", nil, api.OK, 0},
		{a, []string{"a"}, api.OK, 0},
		{a + "\xa7", []string{"a"}, api.ErrShort, len(a) + 1},
		{a + a[:len(a)-1], []string{"a"}, api.ErrShort, 2*len(a) - 1},
	} {
		r := frame.NewReader()
		wantFeed(t, r, x.came, x.loads, api.OK, 0)
		wantClose(t, r, x.e, x.at)
		for range 2 {
			wantFeed(t, r, a, nil, api.ErrDone, 0)
			wantFeed(t, r, "", nil, api.ErrDone, 0)
			wantClose(t, r, api.ErrDone, 0)
		}
	}
	wantClose(t, frame.NewReader(), api.OK, 0)
}

func TestP1_11ANilReader(t *testing.T) {
	var none *frame.Reader
	for range 2 {
		wantFeed(t, none, string(sealed(t, []byte("a"))), nil, api.OK, 0)
		wantFeed(t, none, "\xa6", nil, api.OK, 0)
		wantFeed(t, none, "", nil, api.OK, 0)
		wantClose(t, none, api.OK, 0)
	}
}

// Rule R1: a Reader that NewReader did not make must not panic; it is one to which nothing has come.
func TestR1AZeroReader(t *testing.T) {
	a := string(sealed(t, []byte("a")))
	var r frame.Reader
	wantFeed(t, &r, a+"\xa7", []string{"a"}, api.OK, 0)
	wantClose(t, &r, api.ErrShort, len(a)+1)
	var closed frame.Reader
	wantClose(t, &closed, api.OK, 0)
	wantFeed(t, &closed, a, nil, api.ErrDone, 0)
}

func TestP1_12CutsHaveNoPartInAReader(t *testing.T) {
	r := rand.New(rand.NewSource(32))
	for range 1000 {
		row := someRow(t, r)
		want, wantE, wantAt := frame.Scan(row)
		reader := frame.NewReader()
		var loads [][]byte
		for _, p := range cutUp(r, row) {
			some, _, _ := reader.Feed(p)
			loads = append(loads, some...)
		}
		wantClose(t, reader, wantE, wantAt)
		if !sameLists(loads, want) {
			t.Errorf("%x: %q, want %q", row, loads, want)
		}
	}
}

// Rule R5: what one Reader is fed does not show in another.
func TestR5ReadersStandAlone(t *testing.T) {
	rnd := rand.New(rand.NewSource(33))
	a, b := sealed(t, randomBytes(rnd, 60)), sealed(t, randomBytes(rnd, 60))
	one, two := frame.NewReader(), frame.NewReader()
	var ofOne, ofTwo [][]byte
	for i := range a {
		x, _, _ := one.Feed(a[i : i+1])
		y, _, _ := two.Feed(b[i : i+1])
		ofOne, ofTwo = append(ofOne, x...), append(ofTwo, y...)
	}
	if len(ofOne) != 1 || len(ofTwo) != 1 || !bytes.Equal(sealed(t, ofOne[0]), a) || !bytes.Equal(sealed(t, ofTwo[0]), b) {
		t.Errorf("%x, %x", ofOne, ofTwo)
	}
}
