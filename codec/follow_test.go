package codec_test

import (
	"bytes"
	"math/rand"
	"reflect"
	"strings"
	"testing"

	"larder/api"
)

func TestP9_3ThereAndBack(t *testing.T) {
	r := rand.New(rand.NewSource(94))
	for _, th := range things() {
		taken := 0
		for range 3000 {
			x := randomThing(r, th)
			b, e := th.put(x)
			if e != api.OK {
				continue
			}
			taken++
			wantRead(t, th, b, x)
		}
		if taken < 1000 {
			t.Errorf("%s: only %d were written", th.name, taken)
		}
	}
}

// Every row of few small bytes behind a first byte that is a thing is that thing's one form.
func TestP9_3BackAndThere(t *testing.T) {
	for _, th := range things() {
		taken := 0
		b := []byte{th.key}
		var further func(left int)
		further = func(left int) {
			x, e, _ := th.read(b)
			if e == api.OK {
				taken++
				wantPut(t, th, x, b)
			}
			if left == 0 || e == api.OK {
				return
			}
			for _, c := range []byte{0, 1, 2, 0x80} {
				b = append(b, c)
				further(left - 1)
				b = b[:len(b)-1]
			}
		}
		further(8)
		if taken < 100 {
			t.Errorf("%s: only %d were read", th.name, taken)
		}
	}
}

func everyBeginning(t *testing.T, th thing, b []byte) {
	t.Helper()
	for cut := range b {
		wantFault(t, th, "a beginning", b[:cut], api.ErrShort, cut)
	}
}

func TestP9_4NoBeginning(t *testing.T) {
	r := rand.New(rand.NewSource(95))
	for _, th := range things() {
		everyBeginning(t, th, bytesOf(th, th.zero))
		everyBeginning(t, th, bytesOf(th, filled(th, 3)))
		for range 60 {
			b, e := th.put(randomThing(r, th))
			if e != api.OK {
				continue
			}
			everyBeginning(t, th, b)
			for _, behind := range []string{"\x00", "\x80", "\xff", "Q", "anything", string(b)} {
				if len(b)+len(behind) <= th.most {
					wantFault(t, th, "something behind", append(bytes.Clone(b), behind...), api.ErrTail, len(b))
				}
			}
		}
	}
}

func TestP9_4ABeginningOfTheLongest(t *testing.T) {
	for _, th := range things()[:3] {
		v := settable(th, th.zero)
		leaves(v, reflect.String)[0].SetString(strings.Repeat("i", th.most-len(bytesOf(th, th.zero))-1))
		b := bytesOf(th, v.Interface())
		if len(b) != th.most {
			t.Fatalf("%d bytes", len(b))
		}
		everyBeginning(t, th, b)
	}
}

func TestP9_4NoOtherReaderTakesThem(t *testing.T) {
	r := rand.New(rand.NewSource(96))
	for _, th := range things() {
		for range 300 {
			b, e := th.put(randomThing(r, th))
			if e != api.OK {
				continue
			}
			for _, other := range things() {
				if other.key != th.key && len(b) <= other.most {
					wantFault(t, other, "bytes of a "+th.name, b, api.ErrKey, 0)
				}
			}
		}
	}
}
