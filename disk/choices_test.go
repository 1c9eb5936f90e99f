package disk_test

import (
	"math"
	"testing"

	"larder/api"
	"larder/disk"
)

// keep answers a subset by its number.
func keep(number, k int) []int {
	var l []int
	for i := range k {
		if number/(1<<i)%2 == 1 {
			l = append(l, i)
		}
	}
	return l
}

// choicesOf answers what the document says of k loose writes.
func choicesOf(k int) []api.Crash {
	var l []api.Crash
	for number := 0; number < 1<<k; number++ {
		l = append(l, api.Crash{Keep: keep(number, k), Torn: -1})
	}
	for i := range k {
		for number := 0; number < 1<<k; number++ {
			if number/(1<<i)%2 == 0 {
				l = append(l, api.Crash{Keep: keep(number, k), Torn: i, Bytes: 64})
			}
		}
	}
	return l
}

// looseDisk has one write that is durable, and k loose ones behind it.
func looseDisk(t *testing.T, k int) *disk.Disk {
	t.Helper()
	d := newDisk(t, nil, 3)
	write(t, d, 1, full('s'))
	flush(t, d)
	for i := range k {
		write(t, d, i%3, full(byte('a'+i)))
	}
	return d
}

func TestP6_6ChoicesOfSoManyLooseWrites(t *testing.T) {
	d := looseDisk(t, api.MaxChoices+2)
	for k := range api.MaxChoices + 1 {
		wantChoices(t, "Choices", d.Choices(2+k), choicesOf(k))
	}
	wantChoices(t, "MaxChoices + 1", d.Choices(2+api.MaxChoices+1), nil)
	wantChoices(t, "MaxChoices + 2", d.Choices(2+api.MaxChoices+2), nil)
	flush(t, d)
	wantChoices(t, "behind a Flush", d.Choices(d.Count()), choicesOf(0))
	// What was loose ahead of the Flush is loose at that moment still.
	wantChoices(t, "ahead of it", d.Choices(2+3), choicesOf(3))
}

func TestP6_6HowManyChoices(t *testing.T) {
	for k := range api.MaxChoices + 1 {
		if n, want := len(choicesOf(k)), 1<<k+k<<k/2; n != want {
			t.Errorf("%d choices of %d, want %d", n, k, want)
		}
	}
	d := looseDisk(t, api.MaxChoices)
	n := 0
	for range d.Choices(d.Count()) {
		n++
	}
	if n != 1024+10*512 {
		t.Errorf("%d choices of MaxChoices", n)
	}
}

func TestP6_6ChoicesWithoutAFlush(t *testing.T) {
	d := newDisk(t, nil, 1)
	for n := range 5 {
		wantChoices(t, "Choices", d.Choices(n), choicesOf(n))
		wantChoices(t, "Choices of what has not come", d.Choices(n+1), nil)
		write(t, d, 0, full('a'))
	}
}

func TestP6_6NoSuchMoment(t *testing.T) {
	for _, k := range []int{0, 2, 11} {
		d := looseDisk(t, k)
		for _, n := range []int{-1, d.Count() + 1, math.MinInt, math.MaxInt} {
			wantChoices(t, "Choices", d.Choices(n), nil)
		}
	}
}

func TestP6_6ChoicesLeftAndGoneOverAgain(t *testing.T) {
	want := choicesOf(4)
	d := looseDisk(t, 4)
	seq := d.Choices(6)
	for stop := 1; stop <= len(want); stop++ {
		var got []api.Crash
		for c := range seq {
			got = append(got, c)
			if len(got) == stop {
				break
			}
		}
		wantChoices(t, "left", func(yield func(api.Crash) bool) {
			for _, c := range got {
				if !yield(c) {
					return
				}
			}
		}, want[:stop])
	}
	wantChoices(t, "again", seq, want)
	wantChoices(t, "once more", seq, want)
}

func TestP6_6ChoicesNested(t *testing.T) {
	want := choicesOf(2)
	seq := looseDisk(t, 2).Choices(4)
	outer := 0
	for c := range seq {
		if !sameCrash(c, want[outer]) {
			t.Errorf("choice %d: %v", outer, c)
		}
		outer++
		wantChoices(t, "inner", seq, want)
	}
	if outer != len(want) {
		t.Errorf("%d choices", outer)
	}
}

func TestP6_6ChoicesGoOverWhatStood(t *testing.T) {
	d := looseDisk(t, 2)
	now, next, later := d.Choices(4), d.Choices(5), d.Choices(10)
	first := true
	for range now {
		if first {
			write(t, d, 0, full('x'))
			flush(t, d)
			first = false
		}
	}
	for range 20 {
		write(t, d, 0, full('y'))
	}
	wantChoices(t, "what stood", now, choicesOf(2))
	wantChoices(t, "a moment that had not come", next, nil)
	wantChoices(t, "a moment that had not come", later, nil)
	wantChoices(t, "asked anew", d.Choices(5), choicesOf(3))
	wantChoices(t, "asked anew", d.Choices(10), choicesOf(4))
	wantChoices(t, "too many", d.Choices(26), nil)
}

// Each choice is one that At takes, and tearing shows.
func TestP6_6ChoicesAreTakenByAt(t *testing.T) {
	d := looseDisk(t, 3)
	images := map[string]bool{}
	for c := range d.Choices(5) {
		p, e := d.At(5, c)
		if e != api.OK {
			t.Fatalf("At(5, %v): %d", c, e)
		}
		images[string(p)] = true
	}
	// Each of the three sectors is as it was, new, or half new.
	if len(images) != 8+3*4 {
		t.Errorf("%d images", len(images))
	}
}
