package cart_test

import (
	"bytes"
	"strconv"
	"testing"

	"larder/api"
	"larder/cart"
	"larder/disk"
	"larder/mend"
)

func wantNone(t *testing.T, name string, d *disk.Disk, c api.Config, s api.State, epoch int, want api.Errno) {
	t.Helper()
	if m, e := cart.New(d, c, s, epoch); m != nil || e != want {
		t.Errorf("%s: %v, %d; want none and %d", name, m != nil, e, want)
	}
}

func blank(t *testing.T, sectors int) *disk.Disk {
	t.Helper()
	d, e := disk.New(nil, sectors)
	if e != api.OK {
		t.Fatalf("disk.New: %d", e)
	}
	return d
}

func TestP14_1_NewWithoutDisk(t *testing.T) {
	c := plain()
	wantNone(t, "no disk", nil, c, empty(c), 1, api.ErrArg)
	c.Slot = 1
	wantNone(t, "no disk, and a slot that is too small", nil, c, empty(c), 1, api.ErrArg)
	c = plain()
	wantNone(t, "a disk of no sectors", &disk.Disk{}, c, empty(c), 1, api.ErrArg)
}

// TestP14_1_NewOfConfigs: each error of mend.Check.
func TestP14_1_NewOfConfigs(t *testing.T) {
	codes := func(l ...string) func(*api.Config) { return func(c *api.Config) { c.Codes = l } }
	for _, x := range []struct {
		name string
		turn func(*api.Config)
		want api.Errno
	}{
		{"no stripes", func(c *api.Config) { c.Stripes = 0 }, api.ErrArg},
		{"65 stripes", func(c *api.Config) { c.Stripes = 65 }, api.ErrArg},
		{"no handlers", func(c *api.Config) { c.Handlers = 0 }, api.ErrArg},
		{"17 handlers", func(c *api.Config) { c.Handlers = 17 }, api.ErrArg},
		{"a slot of 1", func(c *api.Config) { c.Slot = 1 }, api.ErrSlot},
		{"a slot of 1025", func(c *api.Config) { c.Slot = 1025 }, api.ErrSlot},
		{"the least slot there is", func(c *api.Config) { c.Slot = least }, api.ErrSlot},
		{"no sector for the log", func(c *api.Config) { c.Sectors = 16 }, api.ErrSlot},
		{"4097 sectors", func(c *api.Config) { c.Sectors = 4097 }, api.ErrSlot},
		{"no codes", codes(), api.ErrArg},
		{"513 codes", codes(names(513, 3)...), api.ErrLong},
		{"a code that is none", codes("a", ""), api.ErrCode},
		{"codes out of order", codes("b", "a"), api.ErrSorted},
		{"a code twice", codes("a", "a"), api.ErrSorted},
		{"no room for the codes", codes(names(60, 3)...), api.ErrFull},
	} {
		c := plain()
		x.turn(&c)
		want(t, x.name+": mend.Check", mend.Check(c), x.want)
		wantNone(t, x.name, blank(t, 40), c, empty(plain()), 1, x.want)
		// Ahead of every error that follows.
		wantNone(t, x.name+", and all else wrong", blank(t, 39), c, api.State{}, 0, x.want)
	}
}

func TestP14_1_NewOfDisks(t *testing.T) {
	c := plain()
	for _, n := range []int{1, 39, 41, 4096} {
		wantNone(t, strconv.Itoa(n)+" sectors", blank(t, n), c, empty(c), 1, api.ErrArg)
		wantNone(t, strconv.Itoa(n)+" sectors, and no state", blank(t, n), c, api.State{}, 1, api.ErrArg)
	}
	// What stands on the disk is not asked.
	if m, e := cart.New(blank(t, 40), c, empty(c), 1); m == nil || e != api.OK {
		t.Errorf("a disk of zeros: %d", e)
	}
}

func TestP14_1_NewOfEpochs(t *testing.T) {
	c := plain()
	for _, epoch := range []int{0, -1, api.MaxLife, api.MaxLife + 1, greatest, least} {
		wantNone(t, "epoch "+strconv.Itoa(epoch), blank(t, 40), c, empty(c), epoch, api.ErrArg)
		wantNone(t, "epoch "+strconv.Itoa(epoch)+", and no state", blank(t, 40), c, api.State{}, epoch, api.ErrArg)
	}
	for _, epoch := range []int{1, 2, api.MaxLife - 2, api.MaxLife - 1} {
		m, e := cart.New(blank(t, 40), c, empty(c), epoch)
		if e != api.OK {
			t.Errorf("epoch %d: %d", epoch, e)
		}
		want(t, "Life", m.View().Life, epoch)
	}
}

func TestP14_1_NewOfStates(t *testing.T) {
	c := plain()
	turned := func(turn func(*api.State)) api.State {
		s := behind(t, empty(c), restock("1", line("a", 9), line("b", 4)), hold("h", 10, line("a", 2)))
		turn(&s)
		return s
	}
	if _, e := cart.New(blank(t, 40), c, turned(func(*api.State) {}), 1); e != api.OK {
		t.Fatalf("a state that is right: %d", e)
	}
	for name, s := range map[string]api.State{
		"the zero State":            {},
		"more held than there is":   turned(func(s *api.State) { s.Levels[1].Held = 5 }),
		"a hold that is over":       turned(func(s *api.State) { s.Now = 10 }),
		"more Dones than effects":   turned(func(s *api.State) { s.Lsn = 1 }),
		"a room that is too great":  turned(func(s *api.State) { s.Room += 128 }),
		"a room that is too little": turned(func(s *api.State) { s.Room-- }),
		"other codes":               turned(func(s *api.State) { s.Levels[1].Code = "c" }),
		"a code more":               turned(func(s *api.State) { s.Levels = append(s.Levels, api.Level{Code: "c"}) }),
		"a code less":               turned(func(s *api.State) { *s = empty(c); s.Levels = s.Levels[:1] }),
		"too many effects":          turned(func(s *api.State) { s.Lsn = api.MaxLsn + 1 }),
	} {
		wantNone(t, name, blank(t, 40), c, s, 1, api.ErrState)
	}
}

// TestP14_1_WhatItHolds: all that can be seen of a memory that was just made.
func TestP14_1_WhatItHolds(t *testing.T) {
	c := plain()
	c.Handlers = 3
	s := behind(t, empty(c), restock("1", line("a", 9), line("b", 4)), hold("h", 10, line("a", 2)), tick("t", 4))
	m, d := memoryAt(t, c, s, 7, 2)
	image := d.Image()
	wantState(t, m, s)
	// 64, two levels of 22, a hold of 14 + 1 + 12, and three requests of 51 + 1 and 24, 12 and 0.
	want(t, "View", m.View(), api.View{Life: 7, Given: 3, Noted: 3, Durable: 3, Flusher: -1, Weight: 64 + 44 + 27 + 3*52 + 36, Reserved: 64 + 44 + 27 + 3*52 + 36, Free: 24})
	for stripe := range 4 {
		want(t, "Last", m.Last(stripe), 3)
	}
	for h := range 3 {
		want(t, "phase", standing(m, h), "Idle")
		want(t, "On", m.On(h), -1)
		want(t, "Number", m.Number(h), 0)
		want(t, "Step", m.Step(h), false)
		if x, ok := m.Reply(h); ok || !sameReply(x, api.Reply{}) {
			t.Errorf("Reply(%d): %s, %v", h, show(x), ok)
		}
	}
	wantPoints(t, m)
	if d.Count() != 2 || !bytes.Equal(d.Image(), image) {
		t.Error("the disk was touched")
	}
}

// TestP14_1_GoesOn: numbers, log and stripes go on from what New was given.
func TestP14_1_GoesOn(t *testing.T) {
	c := plain()
	s := behind(t, empty(c), restock("1", line("a", 9)), restock("2", line("b", 4)))
	m, d := memory(t, c, s, 5)
	want(t, "a hold", ask(t, m, 1, hold("h", 3, line("a", 9))).Now, 3)
	wantPoints(t, m, api.Point{Handler: 1, Lsn: 3})
	v := m.View()
	want(t, "Given", v.Given, 3)
	want(t, "Durable", v.Durable, 3)
	want(t, "Free", v.Free, 23)
	back, _ := disk.New(d.Durable(), c.Sectors)
	got, epoch, n, e := mend.Recover(back, c)
	if e != api.OK || epoch != 6 || n != 1 || !sameState(got, m.State()) {
		t.Errorf("Recover: %s, %d, %d, %d", show(got), epoch, n, e)
	}
}
