package disk_test

import (
	"bytes"
	"slices"
	"testing"

	"larder/api"
	"larder/disk"
)

// Rule R4: what is handed in is neither changed, spare room included, nor kept; answers share no memory.

// roomy answers a copy of l with spare room behind it, which is filled.
func roomy[T any](l []T, filler T) []T {
	given := append(make([]T, 0, len(l)+200), l...)
	room := given[:cap(given)]
	for i := len(l); i < len(room); i++ {
		room[i] = filler
	}
	return given
}

// spoil writes over all of l, its spare room too.
func spoil[T any](l []T, filler T) {
	l = l[:cap(l)]
	for i := range l {
		l[i] = filler
	}
}

func wantUntouched[T comparable](t *testing.T, name string, given, before []T) {
	t.Helper()
	if !slices.Equal(given[:cap(given)], before[:cap(before)]) {
		t.Errorf("%s: what was handed in has changed", name)
	}
}

func TestR4AnImageIsNeitherChangedNorKept(t *testing.T) {
	for _, size := range []int{0, 1, 127, 128, 129, 255, 256} {
		image := bytes.Repeat([]byte{'i'}, size)
		given, before := roomy(image, 0xee), roomy(image, 0xee)
		want := joined(image, zeros(2*api.SectorBytes-size))
		d := newDisk(t, given, 2)
		wantImages(t, d, want, want)
		write(t, d, 0, full('a'))
		write(t, d, 1, full('b'))
		flush(t, d)
		wantUntouched(t, "New and Write", given, before)
		spoil(given, 'x')
		wantAt(t, d, 0, api.Crash{}, want)
		wantImages(t, d, joined(full('a'), full('b')), joined(full('a'), full('b')))
	}
	given, before := roomy(zeros(300), 0xee), roomy(zeros(300), 0xee)
	disk.New(given, 2)
	disk.New(given, 0)
	wantUntouched(t, "New that refuses", given, before)
}

func TestR4WhatIsWrittenIsNeitherChangedNorKept(t *testing.T) {
	d := newDisk(t, nil, 2)
	given, before := roomy(full('a'), 0xee), roomy(full('a'), 0xee)
	write(t, d, 0, given)
	wantUntouched(t, "Write", given, before)
	spoil(given, 'x')
	wantImages(t, d, joined(full('a'), full(0)), joined(full(0), full(0)))
	wantAt(t, d, 1, api.Crash{Keep: []int{0}}, joined(full('a'), full(0)))
	flush(t, d)
	// The same memory again, for the sector beside.
	write(t, d, 1, given)
	spoil(given, 'y')
	wantImages(t, d, joined(full('a'), full('x')), joined(full('a'), full(0)))
	wantAt(t, d, 3, api.Crash{Bytes: 3, Torn: 0}, joined(full('a'), []byte("xxx"), full(0)[3:]))
}

func TestR4KeepIsNeitherChangedNorKept(t *testing.T) {
	d := newDisk(t, nil, 2)
	write(t, d, 0, full('a'))
	write(t, d, 1, full('b'))
	list := []int{1, 9, -3, 1}
	given, before := roomy(list, 0), roomy(list, 0)
	c := api.Crash{Keep: given, Torn: 0, Bytes: 1}
	want := joined([]byte("a"), full(0)[1:], full('b'))
	wantAt(t, d, 2, c, want)
	wantNoAt(t, d, 3, c)
	wantUntouched(t, "At", given, before)
	left, _ := d.At(2, c)
	spoil(given, 0)
	if !bytes.Equal(left, want) {
		t.Error("At: the answer hangs on Keep still")
	}
}

func TestR4AnswersShareNothing(t *testing.T) {
	d := newDisk(t, full('i'), 2)
	write(t, d, 0, full('a'))
	flush(t, d)
	write(t, d, 1, full('b'))
	seen, durable := joined(full('a'), full('b')), joined(full('a'), full(0))
	ask := func() [][]byte {
		zero, _ := d.Read(0)
		one, _ := d.Read(1)
		begin, _ := d.At(0, api.Crash{})
		torn, _ := d.At(3, api.Crash{Bytes: 2})
		kept, _ := d.At(3, api.Crash{Keep: []int{0}})
		return [][]byte{zero, one, begin, torn, kept, d.Image(), d.Durable()}
	}
	want := [][]byte{full('a'), full('b'), joined(full('i'), full(0)), joined(full('a'), []byte("bb"), full(0)[2:]), seen, seen, durable}
	got, again := ask(), ask()
	for i := range got {
		if !bytes.Equal(got[i], want[i]) {
			t.Errorf("answer %d: %q", i, got[i])
		}
		_ = append(got[i], "laid behind"...)
		spoil(got[i], 'x')
	}
	for _, l := range [][][]byte{again, ask()} {
		for i := range l {
			if !bytes.Equal(l[i], want[i]) {
				t.Errorf("answer %d shares memory: %q", i, l[i])
			}
		}
	}
}

func TestR4PendingIsNewMemory(t *testing.T) {
	d := newDisk(t, nil, 4)
	for _, n := range []int{3, 0, 3} {
		write(t, d, n, full('a'))
	}
	one, two := d.Pending(), d.Pending()
	_ = append(one, 7)
	spoil(one, 1)
	if !slices.Equal(two, []int{3, 0, 3}) {
		t.Errorf("Pending: %v", two)
	}
	write(t, d, 2, full('b'))
	if !slices.Equal(two, []int{3, 0, 3}) {
		t.Errorf("Pending changes behind the call: %v", two)
	}
	wantCounts(t, d, 4, 3, 0, 3, 2)
}

// What was answered stays, whatever the disk does behind it.
func TestR4AnswersStay(t *testing.T) {
	d := newDisk(t, nil, 1)
	write(t, d, 0, full('a'))
	p, _ := d.Read(0)
	image, durable := d.Image(), d.Durable()
	left, _ := d.At(1, api.Crash{Keep: []int{0}})
	write(t, d, 0, full('b'))
	flush(t, d)
	if !bytes.Equal(p, full('a')) || !bytes.Equal(image, full('a')) || !bytes.Equal(durable, full(0)) || !bytes.Equal(left, full('a')) {
		t.Error("an answer has changed")
	}
}

// Rules R4 and R7: what is done with a choice shows in no other.
func TestR4ChoicesShareNothing(t *testing.T) {
	d := looseDisk(t, 4)
	want := choicesOf(4)
	seq := d.Choices(6)
	var got []api.Crash
	for c := range seq {
		got = append(got, c)
	}
	for i, c := range got {
		if !sameCrash(c, want[i]) {
			t.Errorf("choice %d: %v, want %v", i, c, want[i])
		}
		_ = append(c.Keep, 7)
		spoil(c.Keep, 9)
	}
	i := 0
	for c := range seq {
		if !sameCrash(c, want[i]) {
			t.Errorf("choice %d again: %v, want %v", i, c, want[i])
		}
		spoil(c.Keep, 5)
		i++
	}
}
