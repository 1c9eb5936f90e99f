package mend_test

import (
	"encoding/binary"
	"testing"

	"larder/api"
	"larder/mend"
)

func TestExample1Check(t *testing.T) {
	want(t, "Room", mend.Room(plain()), 384)
	want(t, "Check", mend.Check(plain()), api.OK)
	c := plain()
	c.Sectors = 8
	want(t, "Sectors 8", mend.Check(c), api.ErrSlot)
	c = plain()
	c.Slot = 1
	want(t, "Slot 1", mend.Check(c), api.ErrSlot)
	c = plain()
	c.Codes = nil
	want(t, "no codes", mend.Check(c), api.ErrArg)
	c = plain()
	c.Handlers = 17
	want(t, "Handlers 17", mend.Check(c), api.ErrArg)
}

func TestExample2Format(t *testing.T) {
	image, e := mend.Format(plain())
	want(t, "error", e, api.OK)
	if len(image) != 2048 {
		t.Fatalf("%d bytes", len(image))
	}
	want(t, "the header's first word", binary.LittleEndian.Uint64(image[4*128:]), 1)
	want(t, "its last", binary.LittleEndian.Uint64(image[5*128-8:]), 1)
	want(t, "the body's first byte", image[5*128], 0x54)
	wantNewest(t, "a new store", newDisk(t, image, 16), plain(), empty(plain()), 1)
}

func TestExample3Layout(t *testing.T) {
	body, head, e := mend.Layout(plain(), 2, empty(plain()))
	if e != api.OK || len(body) != 1 || body[0].Sector != 1 || head.Sector != 0 {
		t.Errorf("%v, %v, %d", body, head, e)
	}
	wantNoLayout(t, "epoch 0", plain(), 0, empty(plain()), api.ErrArg)
	wantNoLayout(t, "the zero State", plain(), 2, api.State{}, api.ErrState)
}

func TestExample4Faults(t *testing.T) {
	wantNoNewest(t, "zeros", newDisk(t, nil, 16), plain(), api.ErrNoState)
	for bit := range 8 {
		for at := range len(stateBytes(t, empty(plain()))) {
			image := formatted(t, plain()).Image()
			image[5*128+at] ^= 1 << bit
			wantNoNewest(t, "a byte of sector 5", newDisk(t, image, 16), plain(), api.ErrRot)
		}
		for at := range 8 {
			image := formatted(t, plain()).Image()
			image[5*128-8+at] ^= 1 << bit
			wantNoNewest(t, "a byte of sector 4's last word", newDisk(t, image, 16), plain(), api.ErrNoState)
		}
	}
}

func TestExample5Recover(t *testing.T) {
	d := formatted(t, plain())
	wantRecover(t, "Format's disk", d, plain(), empty(plain()), 2, 0)
	want(t, "slot 0", binary.LittleEndian.Uint64(d.Image()), 2)
	wantNewest(t, "slot 0", d, plain(), empty(plain()), 2)
	wantRecover(t, "again", d, plain(), empty(plain()), 3, 0)
}

func TestExample6ARecord(t *testing.T) {
	d := formatted(t, plain())
	wantRecover(t, "Format's disk", d, plain(), empty(plain()), 2, 0)
	r := restock("1", line("a", 5))
	logged(t, d, plain(), 2, 0, record(t, r))
	s := empty(plain())
	s.Lsn, s.Levels[0].OnHand, s.Done = 1, 5, []api.Done{{Request: r}}
	wantRecover(t, "with a record", d, plain(), s, 3, 1)
	wantRecover(t, "once more", d, plain(), s, 4, 0)
}
