package codec_test

import (
	"math"
	"math/rand"
	"reflect"
	"strings"
	"testing"

	"larder/api"
)

// One of each of the four, in the order of things(), every field with a value of its own, and the bytes that section 9.1 lays down for it.
func TestP9_1EachThingByHand(t *testing.T) {
	lines := []api.Line{{Code: "a", Qty: 5}, {Code: "", Qty: -1}}
	ask := api.Request{Id: "id", Kind: 3, Lines: lines, Hold: "h", Ttl: 64, Now: -65}
	asked := "\x02id" + "\x06" + "\x02" + "\x01a\x0a" + "\x00\x01" + "\x01h" + "\x80\x01" + "\x81\x01"
	levels := []api.Level{{Code: "b", OnHand: 7, Held: 2}, {Code: "cc", OnHand: -3, Held: 100}}
	leveled := "\x02" + "\x01b\x0e\x04" + "\x02cc\x05\xc8\x01"
	things := things()
	for i, x := range []struct {
		thing any
		bytes string
	}{
		{ask, "Q" + asked},
		{api.Reply{Id: "re", Err: 141, Line: 2, Levels: levels, Now: 9}, "R" + "\x02re" + "\x9a\x02" + "\x04" + leveled + "\x12"},
		{api.Record{Lsn: 300, Request: ask}, "S" + "\xd8\x04" + asked},
		{
			api.State{Room: 1000, Lsn: 6, Now: 8, Levels: levels, Holds: []api.Held{{Id: "h", Lines: lines, Deadline: 10}, {Id: "", Deadline: -2}}, Done: []api.Done{{Request: ask, At: 11}, {At: 1}}},
			"T" + "\xd0\x0f" + "\x0c" + "\x10" + leveled + "\x02" + "\x01h\x02\x01a\x0a\x00\x01\x14" + "\x00\x00\x03" + "\x02" + asked + "\x16" + "\x00\x00\x00\x00\x00\x00\x02",
		},
	} {
		wantPut(t, things[i], x.thing, []byte(x.bytes))
		wantRead(t, things[i], []byte(x.bytes), x.thing)
	}
}

func TestP9_1TheZeroOnes(t *testing.T) {
	zeros := []string{"Q\x00\x00\x00\x00\x00\x00", "R\x00\x00\x00\x00\x00", "S\x00\x00\x00\x00\x00\x00\x00", "T\x00\x00\x00\x00\x00\x00"}
	for i, th := range things() {
		wantPut(t, th, th.zero, []byte(zeros[i]))
		wantRead(t, th, []byte(zeros[i]), th.zero)
	}
}

func TestP9_1ListsOfNoneOneAndSeveral(t *testing.T) {
	for _, th := range things() {
		for _, elements := range []int{0, 1, 2, 3, 7} {
			x := filled(th, elements)
			wantPut(t, th, x, bytesOf(th, x))
			wantRead(t, th, bytesOf(th, x), x)
		}
		changed(th, reflect.Slice, func(v reflect.Value) { v.SetZero() }, func(x any) {
			wantPut(t, th, x, bytesOf(th, x))
			wantRead(t, th, bytesOf(th, x), x)
		})
	}
}

// A list's number takes a second byte from 128 on.
func TestP9_1ListsOfMany(t *testing.T) {
	for _, th := range things() {
		for _, n := range []int{127, 128, 129, 400} {
			changed(th, reflect.Slice, func(v reflect.Value) { v.Set(reflect.MakeSlice(v.Type(), n, n)) }, func(x any) {
				wantPut(t, th, x, bytesOf(th, x))
				wantRead(t, th, bytesOf(th, x), x)
			})
		}
	}
}

func TestP9_1TextsOfEachKind(t *testing.T) {
	all := make([]byte, 256)
	for i := range all {
		all[i] = byte(i)
	}
	for _, th := range things() {
		for _, s := range []string{"", "\x00", "Q", "\xff\xfe", "é", string(all), strings.Repeat("z", 127), strings.Repeat("z", 128)} {
			changed(th, reflect.String, func(v reflect.Value) { v.SetString(s) }, func(x any) {
				wantPut(t, th, x, bytesOf(th, x))
				wantRead(t, th, bytesOf(th, x), x)
			})
		}
	}
}

func TestP9_1EachIntFromTheLeastToTheGreatest(t *testing.T) {
	for _, th := range things() {
		for _, n := range edgeInts() {
			changed(th, reflect.Int, func(v reflect.Value) { v.SetInt(n) }, func(x any) {
				wantPut(t, th, x, bytesOf(th, x))
				wantRead(t, th, bytesOf(th, x), x)
			})
		}
	}
}

// atTheEdge holds a thing against its most, written and read.
func atTheEdge(t *testing.T, th thing, x any, size int) {
	t.Helper()
	want := bytesOf(th, x)
	if len(want) != size {
		t.Fatalf("%s: %d bytes, not %d", th.name, len(want), size)
	}
	if size > th.most {
		wantPutLong(t, th, x)
		wantFault(t, th, "too long", want, api.ErrLong, 0)
		return
	}
	wantPut(t, th, x, want)
	wantRead(t, th, want, x)
}

// Each text in turn fills the thing up to its most, and then is one byte too long.
func TestP9_1AndP9_2JustTheMostByATextAndOneMore(t *testing.T) {
	for _, th := range things() {
		eachPart(th, reflect.String, func(v, text reflect.Value) {
			text.SetString("")
			bare := len(bytesOf(th, v.Interface())) - 1 + len(number(th.most))
			for size := th.most - 2; size <= th.most+2; size++ {
				text.SetString(strings.Repeat("l", size-bare))
				atTheEdge(t, th, v.Interface(), size)
			}
		})
	}
}

// Each list in turn fills the thing with zero elements nearly up to its most; the first int takes what is left, and then one byte more.
func TestP9_1AndP9_2JustTheMostByAListAndOneMore(t *testing.T) {
	for _, th := range things() {
		eachPart(th, reflect.Slice, func(v, list reflect.Value) {
			first := leaves(v, reflect.Int)[0]
			first.SetInt(0)
			list.SetZero()
			bare := len(bytesOf(th, v.Interface())) - 1 + len(number(th.most))
			one := len(joined(th.key, fieldsOf(reflect.Zero(list.Type().Elem())))) - 1
			n := (th.most - bare - 1) / one
			list.Set(reflect.MakeSlice(list.Type(), n, n))
			left := th.most - len(bytesOf(th, v.Interface()))
			first.SetInt(1 << (7*left - 1))
			atTheEdge(t, th, v.Interface(), th.most)
			first.SetInt(1 << (7*left + 6))
			atTheEdge(t, th, v.Interface(), th.most+1)
		})
	}
}

func TestP9_1FarTooLong(t *testing.T) {
	text := strings.Repeat("l", 1<<24)
	for _, th := range things() {
		changed(th, reflect.String, func(v reflect.Value) { v.SetString(text) }, func(x any) { wantPutLong(t, th, x) })
		changed(th, reflect.Slice, func(v reflect.Value) { v.Set(reflect.MakeSlice(v.Type(), 1<<18, 1<<18)) }, func(x any) { wantPutLong(t, th, x) })
	}
}

// The last field alone may be what is too much: nothing of the thing is handed out then.
func TestP9_1TheLastByteIsTooMuch(t *testing.T) {
	for _, th := range things()[:3] {
		v := settable(th, th.zero)
		id := leaves(v, reflect.String)[0]
		ints := leaves(v, reflect.Int)
		id.SetString(strings.Repeat("i", th.most-len(bytesOf(th, th.zero))-1))
		wantPut(t, th, v.Interface(), bytesOf(th, v.Interface()))
		ints[len(ints)-1].SetInt(64)
		wantPutLong(t, th, v.Interface())
		ints[len(ints)-1].SetInt(math.MinInt64)
		wantPutLong(t, th, v.Interface())
	}
}

func TestP9_1ManyThings(t *testing.T) {
	r := rand.New(rand.NewSource(91))
	for _, th := range things() {
		for range 2000 {
			x := randomThing(r, th)
			if want := bytesOf(th, x); len(want) <= th.most {
				wantPut(t, th, x, want)
			} else {
				wantPutLong(t, th, x)
			}
		}
	}
}
