package mend_test

import (
	"math/rand"
	"slices"
	"testing"

	"larder/api"
	"larder/mend"
	"larder/stock"
)

// turned answers the plain configuration with something else in it.
func turned(turn func(c *api.Config)) api.Config {
	c := plain()
	turn(&c)
	return c
}

// P13.1: Room, whatever else a configuration says.
func TestP13_1Room(t *testing.T) {
	for _, x := range []struct{ slot, room int }{
		{least, 0}, {least + 1, 0}, {-1024, 0}, {-1, 0}, {0, 0}, {1, 0}, {2, 128}, {3, 256}, {4, 384}, {1023, 130816}, {1024, 130944}, {1025, 0}, {1 << 60, 0}, {1<<57 + 2, 0}, {greatest, 0},
	} {
		want(t, "Room", mend.Room(api.Config{Slot: x.slot}), x.room)
		want(t, "Room", mend.Room(turned(func(c *api.Config) { c.Slot = x.slot })), x.room)
		want(t, "Room", mend.Room(api.Config{Slot: x.slot, Sectors: -5, Stripes: 99, Handlers: -1, Codes: []string{"", "b", "a"}}), x.room)
	}
}

// P13.1: stripes and handlers.
func TestP13_1CheckStripesAndHandlers(t *testing.T) {
	for _, x := range []struct {
		n    int
		want api.Errno
	}{{least, api.ErrArg}, {-1, api.ErrArg}, {0, api.ErrArg}, {1, api.OK}, {2, api.OK}, {63, api.OK}, {64, api.OK}, {65, api.ErrArg}, {greatest, api.ErrArg}} {
		want(t, "Stripes", mend.Check(turned(func(c *api.Config) { c.Stripes = x.n })), x.want)
	}
	for _, x := range []struct {
		n    int
		want api.Errno
	}{{least, api.ErrArg}, {-1, api.ErrArg}, {0, api.ErrArg}, {1, api.OK}, {15, api.OK}, {16, api.OK}, {17, api.ErrArg}, {greatest, api.ErrArg}} {
		want(t, "Handlers", mend.Check(turned(func(c *api.Config) { c.Handlers = x.n })), x.want)
	}
}

// P13.1: slots and sectors.
func TestP13_1CheckSlotsAndSectors(t *testing.T) {
	for _, slot := range []int{least, least / 2, -1025, -1, 0, 1, 1025, 2048, 1 << 62, greatest} {
		for _, sectors := range []int{least, -1, 0, 1, 3, 5, 16, 2051, 4096, 2*slot + 1} {
			want(t, "Slot", mend.Check(turned(func(c *api.Config) { c.Slot, c.Sectors = slot, sectors })), api.ErrSlot)
		}
	}
	for _, slot := range []int{2, 3, 4, 17, 1023, 1024} {
		// Of a slot of two the room is 128, which one code of a short name alone fits.
		codes := []string{"a"}
		for _, x := range []struct {
			sectors int
			want    api.Errno
		}{{least, api.ErrSlot}, {-1, api.ErrSlot}, {0, api.ErrSlot}, {slot, api.ErrSlot}, {2*slot - 1, api.ErrSlot}, {2 * slot, api.ErrSlot}, {2*slot + 1, api.OK}, {2*slot + 2, api.OK}, {4095, api.OK}, {4096, api.OK}, {4097, api.ErrSlot}, {greatest, api.ErrSlot}} {
			c := turned(func(c *api.Config) { c.Codes, c.Slot, c.Sectors = codes, slot, x.sectors })
			if got := mend.Check(c); got != x.want {
				t.Errorf("slots of %d, %d sectors: %d, want %d", slot, x.sectors, got, x.want)
			}
		}
	}
}

// P13.1: the codes, with every error of stock.New.
func TestP13_1CheckCodes(t *testing.T) {
	for _, x := range []struct {
		name  string
		slot  int
		codes []string
		want  api.Errno
	}{
		{"none", 4, nil, api.ErrArg},
		{"an empty list", 4, []string{}, api.ErrArg},
		{"too many", 1024, names(513, 2), api.ErrLong},
		{"all that may be", 1024, names(512, 2), api.OK},
		{"of the longest names", 1024, names(512, 40), api.OK},
		{"one too long", 1024, []string{"a", times('b', 41)}, api.ErrCode},
		{"one empty", 4, []string{"", "a"}, api.ErrCode},
		{"one with a blank", 4, []string{"a", "b c"}, api.ErrCode},
		{"not in order", 4, []string{"b", "a"}, api.ErrSorted},
		{"one twice", 4, []string{"a", "a"}, api.ErrSorted},
		{"just the room of a small slot", 2, []string{times('a', 40)}, api.OK},
		{"just the room", 2, []string{times('a', 10), times('b', 12)}, api.OK},
		{"one byte more", 2, []string{times('a', 10), times('b', 13)}, api.ErrFull},
		{"another slot has room for them", 3, []string{times('a', 10), times('b', 13)}, api.OK},
		{"of the last but one", 3, names(8, 3), api.OK},
		{"of the last", 3, names(8, 4), api.ErrFull},
	} {
		c := turned(func(c *api.Config) { c.Codes, c.Slot, c.Sectors = x.codes, x.slot, 4096 })
		if got := mend.Check(c); got != x.want {
			t.Errorf("%s: %d, want %d", x.name, got, x.want)
		}
	}
}

// P13.1, R2: of several faults the first counts.
func TestP13_1CheckFirstFault(t *testing.T) {
	for _, x := range []struct {
		name string
		turn func(c *api.Config)
		want api.Errno
	}{
		{"stripes, slot, codes", func(c *api.Config) { c.Stripes, c.Slot, c.Codes = 0, 0, []string{"b", "a"} }, api.ErrArg},
		{"handlers, sectors, codes", func(c *api.Config) { c.Handlers, c.Sectors, c.Codes = 17, 2, []string{""} }, api.ErrArg},
		{"stripes, codes", func(c *api.Config) { c.Stripes, c.Codes = 65, []string{"b", "a"} }, api.ErrArg},
		{"slot, codes", func(c *api.Config) { c.Slot, c.Codes = 1, nil }, api.ErrSlot},
		{"sectors, codes", func(c *api.Config) { c.Sectors, c.Codes = 8, []string{"b", "a"} }, api.ErrSlot},
		{"sectors, too many codes", func(c *api.Config) { c.Sectors, c.Codes = 4097, names(513, 2) }, api.ErrSlot},
		{"too many codes, of which one is none", func(c *api.Config) { c.Codes = append(names(513, 2), "") }, api.ErrLong},
		{"a code that is none, out of order", func(c *api.Config) { c.Codes = []string{"b", "a", ""} }, api.ErrCode},
		{"out of order, too heavy", func(c *api.Config) { c.Codes = append(names(400, 40), "a") }, api.ErrSorted},
	} {
		want(t, x.name, mend.Check(turned(x.turn)), x.want)
		_, e := mend.Format(turned(x.turn))
		want(t, x.name+": Format", e, x.want)
		wantNoLayout(t, x.name, turned(x.turn), 0, api.State{}, x.want)
		d := newDisk(t, nil, 16)
		wantNoNewest(t, x.name, d, turned(x.turn), x.want)
		wantNoRecover(t, x.name, d, turned(x.turn), x.want)
	}
	want(t, "the zero Config", mend.Check(api.Config{}), api.ErrArg)
}

// checked is P13.1, line by line.
func checked(c api.Config) api.Errno {
	if c.Stripes < 1 || c.Stripes > 64 || c.Handlers < 1 || c.Handlers > 16 {
		return api.ErrArg
	}
	if c.Slot < 2 || c.Slot > 1024 || c.Sectors > 4096 || c.Sectors < 2*c.Slot+1 {
		return api.ErrSlot
	}
	_, e := stock.New(c.Codes, (c.Slot-1)*128)
	return e
}

// someConfig answers a configuration, mostly a right one, near the edges.
func someConfig(r *rand.Rand) api.Config {
	c := api.Config{Stripes: 1 + r.Intn(64), Handlers: 1 + r.Intn(16)}
	c.Slot = []int{2, 3, 4, 5, 2 + r.Intn(20), 2 + r.Intn(1023), 1023, 1024}[r.Intn(8)]
	c.Sectors = min(4096, 2*c.Slot+1+[]int{0, 1, r.Intn(20), r.Intn(2000), 4095}[r.Intn(5)])
	c.Codes = names(1+r.Intn(1+r.Intn(4*c.Slot)), 2+r.Intn(5))
	switch r.Intn(30) {
	case 0:
		c.Stripes = []int{0, 65, -3}[r.Intn(3)]
	case 1:
		c.Handlers = []int{0, 17, -3}[r.Intn(3)]
	case 2:
		c.Slot = []int{1, 0, -1, 1025}[r.Intn(4)]
	case 3:
		c.Sectors = []int{2 * c.Slot, 4097, 0, -1}[r.Intn(4)]
	case 4:
		slices.Reverse(c.Codes)
	case 5:
		c.Codes = append(c.Codes, "\x00")
	}
	return c
}

// P13.1 over many configurations.
func TestP13_1Many(t *testing.T) {
	r := rand.New(rand.NewSource(131))
	count := map[api.Errno]int{}
	for range 3000 {
		c := someConfig(r)
		e := checked(c)
		count[e]++
		if got := mend.Check(c); got != e {
			t.Fatalf("Check(%s): %d, want %d", show(c), got, e)
		}
	}
	for _, e := range []api.Errno{api.OK, api.ErrArg, api.ErrSlot, api.ErrLong, api.ErrCode, api.ErrSorted, api.ErrFull} {
		if count[e] < 30 {
			t.Errorf("error %d came %d times alone", e, count[e])
		}
	}
}
