package mend_test

import (
	"bytes"
	"encoding/binary"
	"math/rand"
	"strconv"
	"testing"

	"larder/api"
	"larder/codec"
	"larder/disk"
	"larder/mend"
	"larder/stock"
)

// found is P13.4 of an image, written from the document alone.
func found(image []byte, c api.Config) (api.State, int, api.Errno) {
	room := (c.Slot - 1) * 128
	best, at := uint64(0), 0
	for slot := range 2 {
		h := image[slot*c.Slot*128:][:128]
		first, size, last := binary.LittleEndian.Uint64(h), binary.LittleEndian.Uint64(h[8:]), binary.LittleEndian.Uint64(h[120:])
		if first == last && first >= 1 && first <= 1<<40-1 && int(first&1) == slot && size <= uint64(room) && first > best {
			best, at = first, slot*c.Slot*128
		}
	}
	if best == 0 {
		return api.State{}, 0, api.ErrNoState
	}
	body := image[at+128:][:binary.LittleEndian.Uint64(image[at+8:])]
	s, e, _ := codec.State(body)
	same := len(s.Levels) == len(c.Codes)
	for i := range s.Levels {
		same = same && s.Levels[i].Code == c.Codes[i]
	}
	if sumOf(body) != binary.LittleEndian.Uint64(image[at+16:]) || e != api.OK || !same || s.Room != room || !stock.Sound(s) {
		return api.State{}, 0, api.ErrRot
	}
	return s, int(best), api.OK
}

// wantFound holds Newest of an image against what the document says of it, and that the disk stays as it is.
func wantFound(t *testing.T, name string, image []byte, c api.Config, want api.Errno) {
	t.Helper()
	s, epoch, e := found(image, c)
	if e != want {
		t.Fatalf("%s: the document asks for %d, not %d", name, e, want)
	}
	d := newDisk(t, image, c.Sectors)
	if e == api.OK {
		wantNewest(t, name, d, c, s, epoch)
	} else {
		wantNoNewest(t, name, d, c, e)
		wantNoRecover(t, name, d, c, e)
	}
	if d.Count() != 0 || !bytes.Equal(d.Image(), image) {
		t.Errorf("%s: the disk has changed", name)
	}
}

// P13.4: a checkpoint that is alone, of any epoch, in its slot.
func TestP13_4OneCheckpoint(t *testing.T) {
	c := roomy()
	for _, epoch := range []int{1, 2, 3, 4, 255, 256, 1 << 31, 1<<32 + 1, 1<<40 - 2, 1<<40 - 1} {
		wantFound(t, "epoch "+strconv.Itoa(epoch), imageOf(t, c, epoch, busy(t, c)), c, api.OK)
		wantNewest(t, "epoch "+strconv.Itoa(epoch), newDisk(t, imageOf(t, c, epoch, busy(t, c)), c.Sectors), c, busy(t, c), epoch)
	}
}

// P13.4: headers that are right but for one rule.
func TestP13_4HeadersThatAreNotRight(t *testing.T) {
	c := roomy()
	body := stateBytes(t, busy(t, c))
	size, sum := uint64(len(body)), sumOf(body)
	for _, x := range []struct {
		name  string
		slot  int
		head  []byte
		right bool
	}{
		{"a right one", 1, header(7, size, sum, 7), true},
		{"a right one", 0, header(8, size, sum, 8), true},
		{"another first word", 1, header(9, size, sum, 7), false},
		{"another last word", 1, header(7, size, sum, 9), false},
		{"no first word", 0, header(0, size, sum, 8), false},
		{"no last word", 0, header(8, size, sum, 0), false},
		{"one byte of the last word", 0, header(8, size, sum, 8|1<<56), false},
		{"epoch 0", 0, header(0, size, sum, 0), false},
		{"epoch 1", 1, header(1, size, sum, 1), true},
		{"epoch 2", 0, header(2, size, sum, 2), true},
		{"epoch MaxLife - 2", 0, header(1<<40-2, size, sum, 1<<40-2), true},
		{"epoch MaxLife - 1", 1, header(1<<40-1, size, sum, 1<<40-1), true},
		{"epoch MaxLife", 0, header(1<<40, size, sum, 1<<40), false},
		{"epoch MaxLife + 1", 1, header(1<<40+1, size, sum, 1<<40+1), false},
		{"epoch 2^63", 0, header(1<<63, size, sum, 1<<63), false},
		{"epoch 2^64 - 1", 1, header(1<<64-1, size, sum, 1<<64-1), false},
		{"an epoch of slot 0", 1, header(8, size, sum, 8), false},
		{"an epoch of slot 1", 0, header(7, size, sum, 7), false},
		{"a length of one more than Room", 1, header(7, uint64(c.Slot-1)*128+1, sum, 7), false},
		{"a length of a slot", 1, header(7, uint64(c.Slot)*128, sum, 7), false},
		{"a length of 2^63", 1, header(7, 1<<63, sum, 7), false},
		{"a length of 2^63 and some", 1, header(7, 1<<63+size, sum, 7), false},
		{"a length of 2^64 - 1", 1, header(7, 1<<64-1, sum, 7), false},
		{"a length of 2^32 and some", 1, header(7, 1<<32+size, sum, 7), false},
	} {
		image := blank(c)
		lay(image, c, x.slot, x.head, body)
		e := api.ErrNoState
		if x.right {
			e = api.OK
		}
		wantFound(t, x.name+", alone", image, c, e)
		// Beside a right one of a lesser epoch, which counts if the other one is not right.
		other := 1
		if x.slot == 1 {
			other = 6
		}
		s := behind(t, busy(t, c), restock("more", line("c", 1)))
		laid(image, c, other, stateBytes(t, s))
		wantFound(t, x.name+", beside epoch "+strconv.Itoa(other), image, c, api.OK)
		if !x.right {
			wantNewest(t, x.name, newDisk(t, image, c.Sectors), c, s, other)
		}
	}
}

// P13.4: a length of just Room is right, though no state is so long; so is one of 0.
func TestP13_4LengthsOfRoomAndOfNone(t *testing.T) {
	for _, c := range []api.Config{plain(), roomy()} {
		for _, size := range []int{0, 1, (c.Slot-1)*128 - 1, (c.Slot - 1) * 128} {
			image := blank(c)
			body := make([]byte, size)
			copy(body, stateBytes(t, empty(c)))
			laid(image, c, 2, body)
			wantFound(t, "a length of "+strconv.Itoa(size), image, c, api.ErrRot)
			laid(image, c, 1, stateBytes(t, empty(c)))
			wantFound(t, "a length of "+strconv.Itoa(size)+", and a lesser whole one", image, c, api.ErrRot)
		}
		image := blank(c)
		laid(image, c, 1, stateBytes(t, empty(c)))
		lay(image, c, 0, header(2, uint64(c.Slot-1)*128+1, 0, 2), nil)
		wantFound(t, "a length above Room, and a lesser whole one", image, c, api.OK)
		// A state of all of Room's bytes: one byte of it lies in the last sector's last place, and it weighs too much.
		long := empty(c)
		for len(stateBytes(t, long)) < (c.Slot-1)*128-60 {
			long.Done = append(long.Done, api.Done{Request: tick(names(len(long.Done)+1, 40)[len(long.Done)], 0)})
			long.Lsn++
		}
		long.Done[0].Request.Id += times('x', (c.Slot-1)*128-len(stateBytes(t, long)))
		image = blank(c)
		laid(image, c, 2, stateBytes(t, long))
		wantFound(t, "a state that weighs too much", image, c, api.ErrRot)
	}
}

// P13.4: of two right headers the greater counts.
func TestP13_4TheGreaterCounts(t *testing.T) {
	c := roomy()
	one, two := busy(t, c), behind(t, busy(t, c), commit("c", "h"))
	for _, x := range []struct{ low, high int }{{1, 2}, {2, 3}, {255, 256}, {256, 257}, {1, 1 << 39}, {2, 1<<40 - 1}, {1<<40 - 3, 1<<40 - 2}, {1<<32 - 1, 1 << 32}, {5, 100}} {
		image := blank(c)
		laid(image, c, x.low, stateBytes(t, one))
		laid(image, c, x.high, stateBytes(t, two))
		wantFound(t, "both whole", image, c, api.OK)
		wantNewest(t, "both whole", newDisk(t, image, c.Sectors), c, two, x.high)
		rotten := bytes.Clone(image)
		rotten[(x.high%2*c.Slot+1)*128+5] ^= 1
		wantFound(t, "the greater one's body is rotten", rotten, c, api.ErrRot)
		rotten = bytes.Clone(image)
		rotten[(x.low%2*c.Slot+1)*128+5] ^= 1
		wantFound(t, "the lesser one's body is rotten", rotten, c, api.OK)
		rotten = bytes.Clone(image)
		rotten[x.high%2*c.Slot*128+127] ^= 1
		wantFound(t, "the greater one's header is torn", rotten, c, api.OK)
		wantNewest(t, "the greater one's header is torn", newDisk(t, rotten, c.Sectors), c, one, x.low)
	}
}

// P13.4: bodies that are none.
func TestP13_4Rot(t *testing.T) {
	c := roomy()
	s := busy(t, c)
	body := stateBytes(t, s)
	size, sum := uint64(len(body)), sumOf(body)
	at := func(head, body []byte) []byte {
		image := blank(c)
		lay(image, c, 1, head, body)
		return image
	}
	for bit := range 64 {
		wantFound(t, "a bit of the sum", at(header(3, size, sum^1<<bit, 3), body), c, api.ErrRot)
	}
	for n := range len(body) {
		turned := bytes.Clone(body)
		turned[n] ^= 0x10
		wantFound(t, "a bit of the body", at(header(3, size, sum, 3), turned), c, api.ErrRot)
		short := body[:n]
		wantFound(t, "a body that is cut", at(header(3, uint64(n), sumOf(short), 3), short), c, api.ErrRot)
		wantFound(t, "a length that is less", at(header(3, uint64(n), sum, 3), body), c, api.ErrRot)
	}
	long := append(bytes.Clone(body), 0)
	wantFound(t, "a byte behind the state", at(header(3, size+1, sumOf(long), 3), long), c, api.ErrRot)
	for _, other := range [][]byte{[]byte("no state"), {0x54}, {0x54, 0, 0, 0, 0, 0, 0}, record(t, restock("1", line("a", 5))), {}} {
		wantFound(t, "bytes that are no state", at(header(3, uint64(len(other)), sumOf(other), 3), other), c, api.ErrRot)
	}
	for name, turn := range map[string]func(s *api.State){
		"another room":        func(s *api.State) { s.Room += 128 },
		"a smaller room":      func(s *api.State) { s.Room-- },
		"a level less":        func(s *api.State) { s.Levels = s.Levels[:2] },
		"another code":        func(s *api.State) { s.Levels[2].Code = "d" },
		"a level more":        func(s *api.State) { s.Levels = append(s.Levels, api.Level{Code: "d"}) },
		"more held":           func(s *api.State) { s.Levels[0].Held++ },
		"a number below zero": func(s *api.State) { s.Lsn = -1 },
		"a late hold":         func(s *api.State) { s.Holds[0].Deadline = 4 },
		"a request twice":     func(s *api.State) { s.Done[1] = s.Done[0] },
	} {
		u := copyState(s)
		turn(&u)
		b := stateBytes(t, u)
		wantFound(t, name, at(header(3, uint64(len(b)), sumOf(b), 3), b), c, api.ErrRot)
	}
	wantFound(t, "as it was", at(header(3, size, sum, 3), body), c, api.OK)
}

// P13.4: what stands between the header's words, behind the body, in the other slot's body and in the log is not looked at.
func TestP13_4WhatIsNotLookedAt(t *testing.T) {
	c := roomy()
	s := busy(t, c)
	size := len(stateBytes(t, s))
	image := imageOf(t, c, 3, s)
	at := c.Slot * 128
	free := func(i int) bool {
		switch {
		case i < 128 || i >= at && i < at+24 || i >= at+120 && i < at+128:
			return false
		case i >= at+128 && i < at+128+size:
			return false
		}
		return true
	}
	for i := range image {
		if free(i) {
			image[i] = byte(i*7 + 1)
		}
	}
	wantFound(t, "other bytes", image, c, api.OK)
	wantNewest(t, "other bytes", newDisk(t, image, c.Sectors), c, s, 3)
}

// P13.4: a disk of another size, of any content.
func TestP13_4AnotherDisk(t *testing.T) {
	for _, sectors := range []int{1, 8, 9, 15, 17, 4096} {
		d := newDisk(t, formatted(t, plain()).Image()[:min(sectors, 16)*128], sectors)
		wantNoNewest(t, "a disk of "+strconv.Itoa(sectors), d, plain(), api.ErrSlot)
		wantNoRecover(t, "a disk of "+strconv.Itoa(sectors), d, plain(), api.ErrSlot)
		want(t, "operations", d.Count(), 0)
	}
	var none disk.Disk
	wantNoNewest(t, "a disk that nobody made", &none, plain(), api.ErrSlot)
	wantNoRecover(t, "a disk that nobody made", &none, plain(), api.ErrSlot)
	// Check's errors come first.
	d := newDisk(t, nil, 15)
	wantNoNewest(t, "no handlers", d, turned(func(c *api.Config) { c.Handlers = 0 }), api.ErrArg)
	wantNoNewest(t, "codes out of order", d, turned(func(c *api.Config) { c.Codes = []string{"b", "a"} }), api.ErrSorted)
	wantNoNewest(t, "too many codes for the room", d, turned(func(c *api.Config) { c.Codes = names(30, 40) }), api.ErrFull)
	wantNoRecover(t, "codes out of order", d, turned(func(c *api.Config) { c.Codes = []string{"b", "a"} }), api.ErrSorted)
}

// P13.4: the same disk under another configuration is another store's.
func TestP13_4AnotherConfiguration(t *testing.T) {
	d := formatted(t, plain())
	for _, x := range []struct {
		name string
		turn func(c *api.Config)
		want api.Errno
	}{
		{"other codes", func(c *api.Config) { c.Codes = []string{"a", "c"} }, api.ErrRot},
		{"fewer codes", func(c *api.Config) { c.Codes = []string{"a"} }, api.ErrRot},
		{"more codes", func(c *api.Config) { c.Codes = []string{"a", "b", "c"} }, api.ErrRot},
		{"smaller slots", func(c *api.Config) { c.Slot = 3 }, api.ErrNoState},
		{"greater slots", func(c *api.Config) { c.Slot = 5 }, api.ErrNoState},
	} {
		wantNoNewest(t, x.name, d, turned(x.turn), x.want)
	}
	wantNewest(t, "other stripes and handlers", d, turned(func(c *api.Config) { c.Stripes, c.Handlers = 1, 16 }), empty(plain()), 1)
}

// P13.7: a nil disk, whatever the configuration.
func TestP13_7NilDisk(t *testing.T) {
	wantNoNewest(t, "a nil disk", nil, plain(), api.ErrArg)
	wantNoRecover(t, "a nil disk", nil, plain(), api.ErrArg)
	for _, turn := range []func(c *api.Config){
		func(c *api.Config) { c.Slot = 1 },
		func(c *api.Config) { c.Sectors = 0 },
		func(c *api.Config) { c.Codes = []string{"b", "a"} },
		func(c *api.Config) { c.Codes = names(513, 2) },
		func(c *api.Config) { c.Stripes = 0 },
	} {
		wantNoNewest(t, "a nil disk and a fault", nil, turned(turn), api.ErrArg)
		wantNoRecover(t, "a nil disk and a fault", nil, turned(turn), api.ErrArg)
	}
	wantNoNewest(t, "a nil disk and the zero Config", nil, api.Config{}, api.ErrArg)
	wantNoRecover(t, "a nil disk and the zero Config", nil, api.Config{}, api.ErrArg)
}

// someHeader answers a header that is right, or nearly.
func someHeader(r *rand.Rand, c api.Config, slot int, body []byte) []byte {
	epoch := uint64(1 + r.Intn(6))
	if r.Intn(4) == 0 {
		epoch = uint64(1<<40 - 3 + r.Intn(5))
	}
	if r.Intn(4) > 0 && int(epoch%2) != slot {
		epoch++
	}
	size, sum, last := uint64(len(body)), sumOf(body), epoch
	switch r.Intn(12) {
	case 0:
		size = uint64((c.Slot-1)*128 + r.Intn(3) - 1)
	case 1:
		sum ^= 1 << uint(r.Intn(64))
	case 2:
		last += uint64(r.Intn(3))
	case 3:
		size = r.Uint64()
	}
	return header(epoch, size, sum, last)
}

// P13.4 over many disks: Newest answers what the document says of the image.
func TestP13_4Many(t *testing.T) {
	r := rand.New(rand.NewSource(134))
	count := map[api.Errno]int{}
	for range 4000 {
		c := roomy()
		if r.Intn(2) == 0 {
			c = plain()
		}
		image := blank(c)
		for slot := range 2 {
			if r.Intn(8) == 0 {
				continue
			}
			s := someState(t, r, c)
			switch r.Intn(8) {
			case 0:
				s.Room++
			case 1:
				s.Levels[0].Code = "?"
			case 2:
				s.Levels[0].Held = 99
			}
			body := stateBytes(t, s)
			lay(image, c, slot, someHeader(r, c, slot, body), body)
		}
		if r.Intn(3) == 0 {
			image[r.Intn(len(image))] ^= 1 << r.Intn(8)
		}
		_, _, e := found(image, c)
		count[e]++
		wantFound(t, "a drawn disk", image, c, e)
		if t.Failed() {
			t.FailNow()
		}
	}
	for _, e := range []api.Errno{api.OK, api.ErrNoState, api.ErrRot} {
		if count[e] < 300 {
			t.Errorf("error %d came %d times alone", e, count[e])
		}
	}
}

// R1: disks of any bytes are answered.
func TestR1AnyBytes(t *testing.T) {
	r := rand.New(rand.NewSource(1))
	for range 300 {
		c := someConfig(r)
		n := 1 + r.Intn(300)
		if c.Sectors > 0 && r.Intn(4) > 0 {
			n = min(c.Sectors, 4096)
		}
		image := make([]byte, n*128)
		r.Read(image)
		d := newDisk(t, image, n)
		mend.Newest(d, c)
		mend.Recover(d, c)
	}
}
