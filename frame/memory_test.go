package frame_test

import (
	"bytes"
	"testing"

	"larder/api"
	"larder/frame"
)

// Rule R4: what is handed in is neither changed, spare room included, nor kept; answers share no memory.

// watched is a slice with spare room behind it, and a copy of all of that.
type watched struct {
	given, before []byte
}

func watch(p []byte) watched {
	given := append(make([]byte, 0, len(p)+40), p...)
	room := given[:cap(given)]
	for i := len(p); i < len(room); i++ {
		room[i] = 0xee
	}
	return watched{given, bytes.Clone(room)}
}

func (w watched) check(t *testing.T, name string) {
	t.Helper()
	if !bytes.Equal(w.given[:cap(w.given)], w.before) {
		t.Errorf("%s: what was handed in has changed", name)
	}
}

func (w watched) spoil() { scribble(w.given) }

// scribble writes over all of b, its spare room too.
func scribble(b []byte) {
	b = b[:cap(b)]
	for i := range b {
		b[i] ^= 0x5a
	}
}

func TestR4WhatIsWrittenIsNewMemory(t *testing.T) {
	for _, x := range []struct {
		name string
		put  func(b []byte) []byte
	}{
		{"PutUint", func(b []byte) []byte { return frame.PutUint(b, 300) }},
		{"PutUint 0", func(b []byte) []byte { return frame.PutUint(b, 0) }},
		{"PutInt", func(b []byte) []byte { return frame.PutInt(b, -300) }},
		{"PutInt 1", func(b []byte) []byte { return frame.PutInt(b, 1) }},
		{"PutWord", func(b []byte) []byte { return frame.PutWord(b, 300) }},
		{"PutText", func(b []byte) []byte { return frame.PutText(b, "text") }},
		{"PutText none", func(b []byte) []byte { return frame.PutText(b, "") }},
		{"Seal", func(b []byte) []byte { s, _ := frame.Seal(b); return s }},
	} {
		for _, p := range []string{"", "front"} {
			w := watch([]byte(p))
			one, two := x.put(w.given), x.put(w.given)
			w.check(t, x.name)
			want := bytes.Clone(two)
			scribble(one)
			w.check(t, x.name+", answer written over")
			w.spoil()
			if !bytes.Equal(two, want) {
				t.Errorf("%s: the answer shares memory", x.name)
			}
		}
	}
}

func TestR4WhatIsReadIsNotChanged(t *testing.T) {
	b := sealed(t, []byte("load"))
	for _, p := range [][]byte{nil, {1}, {0x80}, {2, 'a', 'b'}, repeated(0xff, 12), b, joined(b, b), joined(b, b[:3])} {
		w := watch(p)
		frame.Crc(w.given)
		frame.CrcOn(5, w.given)
		frame.Turned(w.given, 5)
		frame.Uint(w.given)
		frame.Int(w.given)
		frame.Word(w.given)
		frame.Text(w.given, 9)
		frame.Unseal(w.given)
		frame.Scan(w.given)
		for range frame.Each(w.given) {
		}
		r := frame.NewReader()
		r.Feed(w.given)
		r.Close()
		w.check(t, "reading")
	}
}

func TestR4ATextIsNewMemory(t *testing.T) {
	w := watch(frame.PutText(nil, "text"))
	s, _, _ := frame.Text(w.given, 9)
	w.spoil()
	if s != "text" {
		t.Errorf("Text: %q", s)
	}
}

func TestR4ALoadIsNewMemory(t *testing.T) {
	w := watch(sealed(t, []byte("load")))
	one, _, _, _ := frame.Unseal(w.given)
	two, _, _, _ := frame.Unseal(w.given)
	scribble(one)
	w.check(t, "Unseal")
	w.spoil()
	if string(two) != "load" {
		t.Errorf("Unseal: %q", two)
	}
}

func TestR4AnEmptyLoadIsNewMemory(t *testing.T) {
	w := watch(joined(sealed(t, nil), sealed(t, nil)))
	one, _, _, _ := frame.Unseal(w.given)
	_ = append(one, "laid behind"...)
	loads, _, _ := frame.Scan(w.given)
	for _, l := range loads {
		_ = append(l, "laid behind"...)
	}
	w.check(t, "empty loads")
}

// checkLoads writes over each load, its spare room too, and sees whether another has changed.
func checkLoads(t *testing.T, name string, loads [][]byte, want ...string) {
	t.Helper()
	if len(loads) != len(want) {
		t.Fatalf("%s: %q, want %q", name, loads, want)
	}
	for i := range loads {
		if string(loads[i]) != want[i] {
			t.Errorf("%s: load %d is %q, want %q", name, i, loads[i], want[i])
		}
		scribble(loads[i])
	}
}

func TestR4LoadsOfScanShareNothing(t *testing.T) {
	w := watch(joined(sealed(t, []byte("one")), sealed(t, []byte("two")), sealed(t, nil), sealed(t, []byte("three"))))
	loads, e, _ := frame.Scan(w.given)
	if e != api.OK {
		t.Fatal(e)
	}
	again, _, _ := frame.Scan(w.given)
	checkLoads(t, "Scan", loads, "one", "two", "", "three")
	w.check(t, "Scan, answer written over")
	w.spoil()
	checkLoads(t, "Scan again", again, "one", "two", "", "three")
}

func TestR4LoadsOfAReaderShareNothing(t *testing.T) {
	r := frame.NewReader()
	row := joined(sealed(t, []byte("one")), sealed(t, []byte("two")), sealed(t, nil), sealed(t, []byte("three")), sealed(t, []byte("four")))
	half := watch(row[:len(row)-4])
	rest := watch(row[len(row)-4:])
	loads, _, _ := r.Feed(half.given)
	half.check(t, "Feed")
	half.spoil()
	checkLoads(t, "Feed", loads, "one", "two", "", "three")
	for i := range loads {
		_ = append(loads[i], "laid behind"...)
	}
	loads, e, at := r.Feed(rest.given)
	rest.spoil()
	if e != api.OK || at != 0 {
		t.Fatalf("Feed: %d, %d", e, at)
	}
	checkLoads(t, "Feed of the rest", loads, "four")
	if e, at := r.Close(); e != api.OK || at != 0 {
		t.Errorf("Close: %d, %d", e, at)
	}
}

func collect(seq func(func(int, []byte) bool)) [][]byte {
	var loads [][]byte
	for _, load := range seq {
		loads = append(loads, load)
	}
	return loads
}

// Promise P1.9 and rule R7: Each goes over what stood when it was made.
func TestP1_9EachKeepsWhatStood(t *testing.T) {
	w := watch(joined(sealed(t, []byte("one")), sealed(t, []byte("two"))))
	seq := frame.Each(w.given)
	w.spoil()
	checkLoads(t, "Each", collect(seq), "one", "two")
	checkLoads(t, "Each, loads written over", collect(seq), "one", "two")
}

func TestP1_9EachMayBeLeft(t *testing.T) {
	row := joined(sealed(t, []byte("one")), sealed(t, []byte("two")), sealed(t, []byte("three")))
	seq := frame.Each(row)
	for stop := 1; stop <= 3; stop++ {
		seen := 0
		for range seq {
			seen++
			if seen == stop {
				break
			}
		}
		if seen != stop {
			t.Errorf("left behind %d, seen %d", stop, seen)
		}
	}
	checkLoads(t, "Each again", collect(seq), "one", "two", "three")
}

func TestP1_9EachMayBeNested(t *testing.T) {
	row := joined(sealed(t, []byte("one")), sealed(t, []byte("two")), sealed(t, []byte("three")))
	seq := frame.Each(row)
	var outer, inner []byte
	for _, a := range seq {
		outer = append(outer, a...)
		for _, b := range seq {
			inner = append(inner, b...)
		}
	}
	if string(outer) != "onetwothree" || string(inner) != "onetwothreeonetwothreeonetwothree" {
		t.Errorf("%q, %q", outer, inner)
	}
}
