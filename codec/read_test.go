package codec_test

import (
	"bytes"
	"math/rand"
	"strings"
	"testing"

	"larder/api"
)

func TestP9_2NoBytesAndTheFirstByte(t *testing.T) {
	for _, th := range things() {
		whole := bytesOf(th, filled(th, 2))
		wantFault(t, th, "no bytes", nil, api.ErrShort, 0)
		wantFault(t, th, "no bytes", []byte{}, api.ErrShort, 0)
		for c := range 256 {
			if byte(c) == th.key {
				continue
			}
			whole[0] = byte(c)
			wantFault(t, th, "another first byte", whole, api.ErrKey, 0)
			wantFault(t, th, "another first byte alone", whole[:1], api.ErrKey, 0)
		}
		wantFault(t, th, "its first byte alone", []byte{th.key}, api.ErrShort, 1)
	}
}

func TestP9_2LongAheadOfAllElse(t *testing.T) {
	for _, th := range things() {
		for _, n := range []int{th.most + 1, th.most + 2, 2 * th.most} {
			for _, c := range []byte{th.key, th.key + 1, 0, 0xff} {
				wantFault(t, th, "too long", bytes.Repeat([]byte{c}, n), api.ErrLong, 0)
			}
			wantFault(t, th, "a whole thing with much behind it", append(bytesOf(th, th.zero), make([]byte, n)...), api.ErrLong, 0)
		}
		wantFault(t, th, "just not too long, another's first byte", bytes.Repeat([]byte{th.key + 4}, th.most), api.ErrKey, 0)
		zero := bytesOf(th, th.zero)
		wantFault(t, th, "just not too long, a whole thing ahead", append(zero, make([]byte, th.most-len(zero))...), api.ErrTail, len(zero))
	}
}

// atEachField goes over the fields of a filled thing: what stands ahead of it, the field, what stands behind it.
func atEachField(th thing, see func(ahead string, f field, behind string)) {
	x := filled(th, 2)
	whole := string(bytesOf(th, x))
	at := 1
	for _, f := range thingFields(x) {
		see(whole[:at], f, whole[at+len(f.bytes):])
		at += len(f.bytes)
	}
}

func TestP9_2AnEndAheadOfAndWithinEachField(t *testing.T) {
	for _, th := range things() {
		atEachField(th, func(ahead string, f field, _ string) {
			for cut := range len(f.bytes) {
				wantFault(t, th, "an end", together(ahead, f.bytes[:cut]), api.ErrShort, len(ahead)+cut)
			}
		})
	}
}

func TestP9_2NumbersThatAreLongerThanNeedBe(t *testing.T) {
	for _, th := range things() {
		atEachField(th, func(ahead string, f field, behind string) {
			n := f.bytes
			if f.kind == aText {
				n = f.bytes[:1]
			}
			longer := n[:len(n)-1] + string([]byte{n[len(n)-1] | 0x80})
			for _, rest := range []string{"", behind} {
				wantFault(t, th, "one byte more", together(ahead, longer, "\x00", rest), api.ErrForm, len(ahead)+len(n))
				wantFault(t, th, "two bytes more", together(ahead, longer, "\x80\x00", rest), api.ErrForm, len(ahead)+len(n)+1)
				wantFault(t, th, "a zero in two bytes", together(ahead, "\x80\x00", rest), api.ErrForm, len(ahead)+1)
				wantFault(t, th, "ten bytes, the last 0", together(ahead, strings.Repeat("\xff", 9), "\x00", rest), api.ErrForm, len(ahead)+9)
			}
		})
	}
}

func TestP9_2NumbersThatAreTooGreat(t *testing.T) {
	nine := strings.Repeat("\xff", 9)
	for _, th := range things() {
		atEachField(th, func(ahead string, f field, behind string) {
			for _, rest := range []string{"", behind} {
				for _, tenth := range []string{"\x02", "\x7f", "\x80", "\xff"} {
					wantFault(t, th, "more than 64 bits", together(ahead, nine, tenth, rest), api.ErrWide, len(ahead)+9)
				}
				wantFault(t, th, "more than 64 bits, lower ones 0", together(ahead, strings.Repeat("\x80", 9), "\x02", rest), api.ErrWide, len(ahead)+9)
			}
		})
	}
}

// Numbers above a limit, up to those that no int holds.
func above(most int) []string {
	return []string{number(most + 1), number(2 * most), number(1 << 32), number(1<<62 + 3), strings.Repeat("\x80", 9) + "\x01", strings.Repeat("\xff", 9) + "\x01"}
}

func TestP9_2TextsThatAreTooLong(t *testing.T) {
	for _, th := range things() {
		atEachField(th, func(ahead string, f field, behind string) {
			if f.kind != aText {
				return
			}
			for _, n := range above(th.most) {
				wantFault(t, th, "a length above the most", together(ahead, n), api.ErrLength, len(ahead))
				wantFault(t, th, "a length above the most", together(ahead, n, behind), api.ErrLength, len(ahead))
			}
			for _, n := range []int{len(behind) + 1, th.most - 1, th.most} {
				b := together(ahead, number(n), behind)
				wantFault(t, th, "a length above what is there", b, api.ErrShort, len(b))
				b = together(ahead, number(n))
				wantFault(t, th, "a length with nothing behind it", b, api.ErrShort, len(b))
			}
		})
	}
}

func TestP9_2ListsThatAreTooLong(t *testing.T) {
	for _, th := range things() {
		atEachField(th, func(ahead string, f field, behind string) {
			if f.kind != aListNum {
				return
			}
			for _, n := range above(th.most) {
				wantFault(t, th, "a list's number above the most", together(ahead, n), api.ErrCount, len(ahead))
				wantFault(t, th, "a list's number above the most", together(ahead, n, behind), api.ErrCount, len(ahead))
			}
			for _, n := range []int{1, 2, th.most - 1, th.most} {
				b := together(ahead, number(n))
				wantFault(t, th, "a list's number with nothing behind it", b, api.ErrShort, len(b))
			}
		})
	}
}

// The most of a state is MaxRoom throughout: what no request may have a state may.
func TestP9_2MaxRoomInMaxWiresPlace(t *testing.T) {
	th := things()[3]
	s := api.State{
		Levels: make([]api.Level, api.MaxWire+1),
		Holds:  []api.Held{{Id: strings.Repeat("h", api.MaxWire+1), Lines: make([]api.Line, api.MaxWire+1)}},
		Done:   []api.Done{{Request: api.Request{Hold: strings.Repeat("h", api.MaxWire+1), Lines: make([]api.Line, api.MaxWire+1)}}},
	}
	wantPut(t, th, s, bytesOf(th, s))
	wantRead(t, th, bytesOf(th, s), s)
}

func TestP9_2ATail(t *testing.T) {
	for _, th := range things() {
		for _, x := range []any{th.zero, filled(th, 1), filled(th, 2)} {
			whole := bytesOf(th, x)
			for c := range 256 {
				wantFault(t, th, "a byte behind", append(bytes.Clone(whole), byte(c)), api.ErrTail, len(whole))
			}
			wantFault(t, th, "itself behind", append(bytes.Clone(whole), whole...), api.ErrTail, len(whole))
		}
	}
}

// Of two faults the one that stands further left is told.
func TestP9_2TheFirstFault(t *testing.T) {
	for _, th := range things() {
		x := filled(th, 1)
		l := thingFields(x)
		at := 1
		for i, f := range l {
			for j := i + 1; j < len(l); j++ {
				bad := make([]field, len(l))
				copy(bad, l)
				bad[i].bytes = "\x80\x00"
				bad[j].bytes = strings.Repeat("\xff", 9) + "\x02"
				wantFault(t, th, "two faults and a tail", append(joined(th.key, bad), 0), api.ErrForm, at+1)
				bad[i], bad[j] = bad[j], bad[i]
				wantFault(t, th, "two faults", joined(th.key, bad), api.ErrWide, at+9)
				wantFault(t, th, "two faults behind another's first byte", joined(th.key+1, bad), api.ErrKey, 0)
			}
			at += len(f.bytes)
		}
	}
}

// damaged is some bytes with a few of them changed, put in, taken out or cut off.
func damaged(r *rand.Rand, b []byte) []byte {
	b = bytes.Clone(b)
	telling := []byte{0, 1, 2, 0x7f, 0x80, 0x81, 0xff, 81, 82, 83, 84}
	for range 1 + r.Intn(3) {
		if len(b) == 0 {
			return b
		}
		i := r.Intn(len(b))
		c := byte(r.Intn(256))
		if r.Intn(2) == 0 {
			c = telling[r.Intn(len(telling))]
		}
		switch r.Intn(6) {
		case 0:
			b = append(b[:i], b[i+1:]...)
		case 1:
			b = append(b[:i], append([]byte{c}, b[i:]...)...)
		case 2:
			b = append(b[:i], append(bytes.Repeat([]byte{0xff}, 9), b[i:]...)...)
		case 3:
			if r.Intn(4) == 0 {
				b = b[:i]
			}
		default:
			b[i] = c
		}
	}
	return b
}

// compare holds all four readers against the slow one, and says how many of them take b.
func compare(t *testing.T, b []byte) int {
	t.Helper()
	taken := 0
	for _, th := range things() {
		want, wantE, wantAt := slowRead(th, b)
		if wantE != api.OK {
			wantFault(t, th, "damaged", b, wantE, wantAt)
			continue
		}
		taken++
		wantRead(t, th, b, want)
		wantPut(t, th, want, b)
	}
	return taken
}

// P9.2, and with it the second half of P9.3 and the end of P9.4.
func TestP9_2ManyBytes(t *testing.T) {
	r := rand.New(rand.NewSource(92))
	taken := 0
	for _, th := range things() {
		for range 6000 {
			b := damaged(r, bytesOf(th, randomThing(r, th)))
			n := compare(t, b)
			if n > 1 {
				t.Fatalf("%x: %d readers take it", b, n)
			}
			taken += n
		}
	}
	if taken < 1000 {
		t.Errorf("only %d of the damaged bytes were still a thing", taken)
	}
}

func TestP9_2BytesAtRandom(t *testing.T) {
	r := rand.New(rand.NewSource(93))
	taken := 0
	for range 120000 {
		b := make([]byte, r.Intn(14))
		for i := range b {
			b[i] = []byte{0, 0, 0, 1, 1, 2, 3, 0x80, 0xff, byte(r.Intn(256))}[r.Intn(10)]
		}
		if len(b) > 0 {
			b[0] = byte(81 + r.Intn(4))
		}
		taken += compare(t, b)
	}
	if taken < 500 {
		t.Errorf("only %d of the bytes were a thing", taken)
	}
}
