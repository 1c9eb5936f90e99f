package codec_test

import (
	"bytes"
	"math/rand"
	"reflect"
	"slices"
	"strings"
	"testing"

	"larder/api"
)

// withRoom is b with spare room behind it, in which a mark stands.
func withRoom(b []byte) []byte {
	with := append(bytes.Clone(b), "the room behind it, which is nobody's but the caller's"...)
	return with[:len(b)]
}

func TestP9_5ReadingLeavesTheBytesAndTheirRoom(t *testing.T) {
	r := rand.New(rand.NewSource(97))
	for _, th := range things() {
		for range 200 {
			b := withRoom(bytesOf(th, randomThing(r, th)))
			if r.Intn(2) == 0 {
				b = withRoom(damaged(r, b))
			}
			before := bytes.Clone(b[:cap(b)])
			th.read(b)
			if !bytes.Equal(b[:cap(b)], before) {
				t.Fatalf("%s: reading changed the bytes", th.name)
			}
		}
	}
}

func TestP9_5WhatWasReadKeepsNoneOfTheBytes(t *testing.T) {
	r := rand.New(rand.NewSource(98))
	for _, th := range things() {
		for range 200 {
			b := bytesOf(th, randomThing(r, th))
			want, e, _ := slowRead(th, b)
			if e != api.OK {
				continue
			}
			got, _, _ := th.read(b)
			clear(b)
			if !same(got, want) {
				t.Fatalf("%s: what was read changes with the bytes", th.name)
			}
		}
	}
}

// listsOf are all lists of x, at any depth.
func listsOf(x any) []reflect.Value { return leaves(reflect.ValueOf(x), reflect.Slice) }

// scribble writes over a list and its spare room.
func scribble(l reflect.Value) {
	all := l.Slice(0, l.Cap())
	for i := range all.Len() {
		for _, n := range leaves(all.Index(i), reflect.Int) {
			n.SetInt(-77)
		}
		for _, s := range leaves(all.Index(i), reflect.String) {
			s.SetString("scribbled")
		}
	}
}

// roomy is a filled thing, of which each list has spare room that was written over; its first text is of that length.
func roomy(th thing, length int) reflect.Value {
	v := settable(th, filled(th, 2))
	leaves(v, reflect.String)[0].SetString(strings.Repeat("r", length))
	// Inner lists first, since the outer ones are copied with them.
	for _, l := range slices.Backward(leaves(v, reflect.Slice)) {
		spare := reflect.MakeSlice(l.Type(), 5, 5)
		scribble(spare)
		reflect.Copy(spare, l)
		l.Set(spare.Slice(0, 2))
	}
	return v
}

// Writing leaves the thing as it was, its lists' spare room too, whether it fits or not, and keeps none of it.
func TestP9_5WritingLeavesTheThing(t *testing.T) {
	for _, th := range things() {
		for _, length := range []int{1, th.most - 8, th.most} {
			v := roomy(th, length)
			b, _ := th.put(v.Interface())
			before := bytes.Clone(b)
			if !alike(v, roomy(th, length)) {
				t.Errorf("%s: writing changed the thing", th.name)
			}
			for _, l := range leaves(v, reflect.Slice) {
				for _, s := range leaves(l.Slice(2, 5), reflect.String) {
					if s.String() != "scribbled" {
						t.Errorf("%s: writing changed a list's spare room", th.name)
					}
				}
			}
			for _, l := range leaves(v, reflect.Slice) {
				scribble(l)
			}
			if !bytes.Equal(b, before) {
				t.Errorf("%s: the bytes change with the thing", th.name)
			}
		}
	}
}

func TestP9_5AnswersAreNewMemory(t *testing.T) {
	for _, th := range things() {
		x := filled(th, 2)
		want := bytesOf(th, x)
		first, _ := th.put(x)
		second, _ := th.put(x)
		all := first[:cap(first)]
		for i := range all {
			all[i] = 0xee
		}
		if !bytes.Equal(second, want) {
			t.Errorf("%s: two answers share bytes", th.name)
		}
		wantPut(t, th, x, want)
		one, _, _ := th.read(want)
		two, _, _ := th.read(want)
		for _, l := range listsOf(one) {
			scribble(l)
		}
		if !same(two, x) {
			t.Errorf("%s: two answers share a list", th.name)
		}
		wantRead(t, th, want, x)
	}
}

// What is written over one list and its spare room shows in no other one that does not lie in it.
func TestP9_5NoTwoListsOfOneAnswerShareMemory(t *testing.T) {
	for _, th := range things() {
		for _, elements := range []int{1, 2, 3, 5} {
			x := filled(th, elements)
			b := bytesOf(th, x)
			for i := range listsOf(x) {
				got, _, _ := th.read(b)
				scribble(listsOf(got)[i])
				want := filled(th, elements)
				scribble(listsOf(want)[i])
				if !same(got, want) {
					t.Errorf("%s: list %d of %d shares memory", th.name, i, elements)
				}
			}
		}
	}
}

func TestR3NilAndEmptyLists(t *testing.T) {
	for _, th := range things() {
		v := settable(th, th.zero)
		for _, l := range leaves(v, reflect.Slice) {
			l.Set(reflect.MakeSlice(l.Type(), 0, 4))
		}
		wantPut(t, th, v.Interface(), bytesOf(th, th.zero))
	}
}

// R5: what was asked ahead of it, a fault too, has no part in an answer.
func TestR5NothingIsKept(t *testing.T) {
	for _, th := range things() {
		x := filled(th, 2)
		b := bytesOf(th, x)
		for cut := range b {
			th.read(b[:cut])
			wantRead(t, th, b, x)
		}
		th.put(filled(th, 3))
		wantPut(t, th, x, b)
	}
}
