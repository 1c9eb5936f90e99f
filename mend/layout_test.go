package mend_test

import (
	"bytes"
	"math/rand"
	"strconv"
	"testing"

	"larder/api"
	"larder/mend"
	"larder/stock"
)

// wantLaidOut holds what Layout answers against the document, byte by byte.
func wantLaidOut(t *testing.T, name string, c api.Config, epoch int, s api.State) {
	t.Helper()
	body, head, e := mend.Layout(c, epoch, s)
	if e != api.OK {
		t.Fatalf("%s: Layout: %d", name, e)
	}
	b := stateBytes(t, s)
	slot := epoch % 2 * c.Slot
	want(t, name+": the header's sector", head.Sector, slot)
	if h := header(uint64(epoch), uint64(len(b)), sumOf(b), uint64(epoch)); !bytes.Equal(head.Bytes, h) {
		t.Errorf("%s: the header is % x, want % x", name, head.Bytes, h)
	}
	want(t, name+": the body's sectors", len(body), (len(b)+127)/128)
	for i, w := range body {
		want(t, name+": a body's sector", w.Sector, slot+1+i)
		whole := make([]byte, 128)
		copy(whole, b[i*128:])
		if !bytes.Equal(w.Bytes, whole) {
			t.Errorf("%s: sector %d is % x, want % x", name, i, w.Bytes, whole)
		}
		if w.Sector >= slot+c.Slot {
			t.Errorf("%s: sector %d is none of the slot", name, w.Sector)
		}
	}
}

// P13.2: epochs, each in its slot.
func TestP13_2Epochs(t *testing.T) {
	c := roomy()
	for _, epoch := range []int{1, 2, 3, 255, 256, 257, 65535, 1 << 32, 1<<32 + 1, 1<<40 - 2, 1<<40 - 1} {
		wantLaidOut(t, "epoch "+strconv.Itoa(epoch), c, epoch, busy(t, c))
	}
	for _, epoch := range []int{0, -1, -2, least, 1 << 40, 1<<40 + 1, 1<<40 + 2, greatest} {
		wantNoLayout(t, "epoch "+strconv.Itoa(epoch), c, epoch, busy(t, c), api.ErrArg)
		wantNoLayout(t, "epoch "+strconv.Itoa(epoch)+" of no state", c, epoch, api.State{}, api.ErrArg)
	}
}

// sized answers a configuration with so many sectors a slot, and a state of it whose bytes are just so many: levels of names as long as it takes.
func sized(t *testing.T, slot, size int) (api.Config, api.State) {
	t.Helper()
	s := api.State{Room: (slot - 1) * 128, Lsn: api.MaxLsn, Now: api.MaxNow}
	left := size - len(stateBytes(t, s))
	n := (left + 51) / 52 // a level of 40 bytes of name, and a great number
	c := api.Config{Stripes: 1, Handlers: 1, Sectors: 2*slot + 1, Slot: slot}
	for i := range n {
		part := left / (n - i)
		left -= part
		code := string([]byte{byte(33 + i/94), byte(33 + i%94)}) + times('x', part-14)
		c.Codes = append(c.Codes, code)
		s.Levels = append(s.Levels, api.Level{Code: code, OnHand: api.MaxStock})
	}
	if len(stateBytes(t, s)) != size || !stock.Sound(s) {
		t.Fatalf("slots of %d: a state of %d bytes that weighs %d, not %d: %s", slot, len(stateBytes(t, s)), stock.Weight(s), size, show(s))
	}
	return c, s
}

// P13.2, P13.11: bodies of just some sectors, of one byte less and one more, and such as have something in the last sector of their slot.
func TestP13_2BodiesAtASectorsEnd(t *testing.T) {
	for _, x := range []struct{ slot, size, sectors int }{
		{100, 100, 1}, {100, 126, 1}, {100, 127, 1}, {100, 128, 1}, {100, 129, 2}, {100, 130, 2}, {100, 255, 2}, {100, 256, 2}, {100, 257, 3}, {100, 384, 3}, {100, 385, 4}, {100, 1280, 10}, {100, 1281, 11},
		{3, 128, 1}, {3, 129, 2}, {3, 165, 2}, {4, 256, 2}, {4, 257, 3}, {4, 282, 3}, {5, 384, 3}, {5, 385, 4},
	} {
		c, s := sized(t, x.slot, x.size)
		name := strconv.Itoa(x.size) + " bytes in a slot of " + strconv.Itoa(x.slot)
		wantLaidOut(t, name, c, 2, s)
		wantLaidOut(t, name, c, 3, s)
		body, _, _ := mend.Layout(c, 3, s)
		want(t, name+": sectors", len(body), x.sectors)
		d := formatted(t, c)
		save(t, d, c, 2, s)
		wantNewest(t, name, d, c, s, 2)
	}
}

// full answers a state that weighs nearly all of Room, and whose bytes are many: great numbers in many levels, and requests of long names.
func full(t *testing.T, slot int) (api.Config, api.State) {
	t.Helper()
	room := (slot - 1) * 128
	n, size := min((room-64)/61, 512), 40
	c := api.Config{Codes: names(n, size), Stripes: 1, Handlers: 1, Sectors: 2*slot + 1, Slot: slot}
	s := empty(c)
	s.Lsn, s.Now = api.MaxLsn, api.MaxNow
	for i := range s.Levels {
		s.Levels[i].OnHand = api.MaxStock
	}
	for _, id := range names(600, 64) {
		d := api.Done{Request: release(id, times('h', 64)), At: s.Now}
		if room-stock.Weight(s) >= 11+40+64+64 {
			s.Done = append(s.Done, d)
		}
	}
	return c, s
}

// P13.2, P13.11: bodies that fill all of a slot's sectors, or nearly, and are still none too great.
func TestP13_2BodiesOfAllSectors(t *testing.T) {
	for _, slot := range []int{2, 3, 4, 9, 33, 100, 250, 500, 1024} {
		c, s := full(t, slot)
		b := stateBytes(t, s)
		if !stock.Sound(s) || len(b) > stock.Weight(s) || len(b) > mend.Room(c) || mend.Room(c)-stock.Weight(s) > 200 {
			t.Fatalf("slots of %d: %d bytes, %d of weight, %d of room", slot, len(b), stock.Weight(s), s.Room)
		}
		wantLaidOut(t, "slots of "+strconv.Itoa(slot), c, 1, s)
		wantLaidOut(t, "slots of "+strconv.Itoa(slot), c, api.MaxLife-2, s)
		d := formatted(t, c)
		save(t, d, c, 2, s)
		wantNewest(t, "slots of "+strconv.Itoa(slot), d, c, s, 2)
	}
}

// P13.2: states that are none of such a store.
func TestP13_2NoState(t *testing.T) {
	c := roomy()
	for name, turn := range map[string]func(s *api.State){
		"another room, greater":  func(s *api.State) { s.Room++ },
		"another room, smaller":  func(s *api.State) { s.Room-- },
		"a room of another slot": func(s *api.State) { s.Room += 128 },
		"a room of no slot":      func(s *api.State) { s.Room = 0 },
		"no levels":              func(s *api.State) { s.Levels = nil },
		"a level less":           func(s *api.State) { s.Levels = s.Levels[:2] },
		"a level more":           func(s *api.State) { s.Levels = append(s.Levels, api.Level{Code: "d"}) },
		"another last code":      func(s *api.State) { s.Levels[2].Code = "d" },
		"a code out of order":    func(s *api.State) { s.Levels[2].Code = "A" },
		"held and no hold":       func(s *api.State) { s.Levels[2].OnHand, s.Levels[2].Held = 1, 1 },
		"below zero":             func(s *api.State) { s.Levels[2].OnHand = -1 },
		"a number below zero":    func(s *api.State) { s.Lsn = -1 },
		"fewer effects":          func(s *api.State) { s.Lsn = 4 },
		"a clock of no time":     func(s *api.State) { s.Now = -1 },
		"a hold that is over":    func(s *api.State) { s.Now = 10 },
		"a request twice":        func(s *api.State) { s.Done[1] = s.Done[0] },
	} {
		s := busy(t, c)
		turn(&s)
		wantNoLayout(t, name, c, 2, s, api.ErrState)
		wantNoLayout(t, name+", and an epoch", c, 0, s, api.ErrArg)
		k := c
		k.Handlers = 0
		wantNoLayout(t, name+", and a configuration", k, 2, s, api.ErrArg)
		k = c
		k.Slot = 1025
		wantNoLayout(t, name+", a configuration and an epoch", k, 0, s, api.ErrSlot)
	}
	wantNoLayout(t, "the zero State", c, 2, api.State{}, api.ErrState)
	k := c
	k.Codes = []string{"a", "b", "d"}
	wantNoLayout(t, "another catalogue", k, 2, busy(t, c), api.ErrState)
	k = c
	k.Slot = 99
	wantNoLayout(t, "another slot", k, 2, busy(t, c), api.ErrState)
	k = c
	k.Stripes, k.Handlers, k.Sectors = 1, 16, 201
	wantLaidOut(t, "what lies elsewhere", k, 2, busy(t, c))
}

// P13.3: Format, byte by byte.
func TestP13_3Format(t *testing.T) {
	smallest := api.Config{Codes: []string{"a"}, Stripes: 1, Handlers: 1, Sectors: 5, Slot: 2}
	great := api.Config{Codes: names(512, 40), Stripes: 64, Handlers: 16, Sectors: 4096, Slot: 1024}
	wide := api.Config{Codes: names(512, 40), Stripes: 64, Handlers: 16, Sectors: 2049, Slot: 1024}
	for _, c := range []api.Config{plain(), roomy(), smallest, great, wide} {
		image, e := mend.Format(c)
		if !bytes.Equal(image, imageOf(t, c, 1, empty(c))) || e != api.OK {
			t.Errorf("Format(%s): %d bytes, %d", show(c), len(image), e)
		}
		wantNewest(t, "a new store", newDisk(t, image, c.Sectors), c, empty(c), 1)
	}
}

// P13.3: Format of what Check does not take.
func TestP13_3FormatOfNoStore(t *testing.T) {
	for _, x := range []struct {
		turn func(c *api.Config)
		want api.Errno
	}{
		{func(c *api.Config) { c.Stripes = 0 }, api.ErrArg},
		{func(c *api.Config) { c.Slot = 1 }, api.ErrSlot},
		{func(c *api.Config) { c.Sectors = 8 }, api.ErrSlot},
		{func(c *api.Config) { c.Sectors = greatest }, api.ErrSlot},
		{func(c *api.Config) { c.Codes = nil }, api.ErrArg},
		{func(c *api.Config) { c.Codes = names(513, 2) }, api.ErrLong},
		{func(c *api.Config) { c.Codes = []string{" "} }, api.ErrCode},
		{func(c *api.Config) { c.Codes = []string{"b", "a"} }, api.ErrSorted},
		{func(c *api.Config) { c.Codes = names(20, 40) }, api.ErrFull},
	} {
		if image, e := mend.Format(turned(x.turn)); len(image) != 0 || e != x.want {
			t.Errorf("Format(%s): %d bytes, %d, want none and %d", show(turned(x.turn)), len(image), e, x.want)
		}
	}
}

// someState answers a state of c behind some requests, nearly full at times.
func someState(t *testing.T, r *rand.Rand, c api.Config) api.State {
	t.Helper()
	s := empty(c)
	if r.Intn(3) == 0 {
		s.Lsn, s.Now = api.MaxLsn-r.Intn(100), api.MaxNow-r.Intn(1000)
	}
	l, e := stock.From(s)
	if e != api.OK {
		t.Fatalf("not sound: %s", show(s))
	}
	for i := range r.Intn(60) {
		id := strconv.Itoa(i) + times('i', r.Intn(30))
		code := c.Codes[r.Intn(len(c.Codes))]
		switch r.Intn(4) {
		case 0:
			l.Do(hold(id, 1+r.Intn(1<<31), line(code, 1+r.Intn(5))))
		case 1:
			l.Do(tick(id, l.State().Now+r.Intn(9)))
		default:
			l.Do(restock(id, line(code, []int{1 + r.Intn(9), 1 << 62, 1 << 40}[r.Intn(3)])))
		}
	}
	return l.State()
}

// P13.11: over many configurations and states: a checkpoint fits its slot, the two slots and the log have no sector in common, and Newest of a disk on which it was saved is its state.
func TestP13_11ACheckpointFits(t *testing.T) {
	r := rand.New(rand.NewSource(1311))
	tight := 0
	for range 600 {
		c := someConfig(r)
		if mend.Check(c) != api.OK {
			continue
		}
		epoch := 1 + r.Intn(1<<uint(r.Intn(40)))
		now := empty(c)
		d := newDisk(t, imageOf(t, c, epoch, now), c.Sectors)
		taken := map[int]int{} // which epoch's parity a sector is of
		for range 4 {
			epoch++
			s := someState(t, r, c)
			if len(stateBytes(t, s)) > mend.Room(c) || stock.Weight(s) > mend.Room(c) {
				t.Fatalf("%s: %d bytes, %d of weight", show(c), len(stateBytes(t, s)), stock.Weight(s))
			}
			body, head, e := mend.Layout(c, epoch, s)
			if e != api.OK {
				t.Fatalf("Layout: %d", e)
			}
			for _, w := range append(body, head) {
				if p, ok := taken[w.Sector]; ok && p != epoch%2 || w.Sector < 0 || w.Sector >= 2*c.Slot || len(w.Bytes) != 128 {
					t.Fatalf("%s: epoch %d: sector %d of %d bytes", show(c), epoch, w.Sector, len(w.Bytes))
				}
				taken[w.Sector] = epoch % 2
			}
			if len(body) == c.Slot-1 {
				tight++
			}
			// While only the body is there, the checkpoint ahead of it counts.
			for _, w := range body {
				d.Write(w.Sector, w.Bytes)
			}
			wantNewest(t, "the one ahead", d, c, now, epoch-1)
			save(t, d, c, epoch, s)
			wantNewest(t, "saved", d, c, s, epoch)
			now = s
		}
		if !bytes.Equal(d.Image()[2*c.Slot*128:], make([]byte, (c.Sectors-2*c.Slot)*128)) {
			t.Fatalf("%s: checkpoints have touched the log", show(c))
		}
	}
	if tight < 50 {
		t.Errorf("%d checkpoints alone had all sectors of their slot", tight)
	}
}
