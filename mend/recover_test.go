package mend_test

import (
	"bytes"
	"strconv"
	"testing"

	"larder/api"
	"larder/disk"
	"larder/mend"
	"larder/wal"
)

// P13.6: a checkpoint and the records behind it; the new checkpoint stands in the other slot, and all else stays.
func TestP13_6Recover(t *testing.T) {
	c := roomy()
	s := busy(t, c)
	list := []api.Request{restock("n1", line("c", 3)), commit("n2", "h"), tick("n3", 50), hold("n4", 9, line("a", 1))}
	for _, epoch := range []int{1, 2, 7, 255, 256, 1 << 33, 1<<40 - 3, 1<<40 - 2} {
		for n := range len(list) + 1 {
			d := newDisk(t, imageOf(t, c, epoch, s), c.Sectors)
			logged(t, d, c, epoch, s.Lsn, records(t, list[:n]...)...)
			to := behind(t, s, list[:n]...)
			image := d.Image()
			wantRecover(t, "epoch "+strconv.Itoa(epoch), d, c, to, epoch+1, n)
			laid(image, c, epoch+1, stateBytes(t, to))
			if !bytes.Equal(d.Image(), image) || !bytes.Equal(d.Durable(), image) {
				t.Errorf("epoch %d: what is on the disk is not what was there and the new checkpoint", epoch)
			}
			wantNewest(t, "behind it", d, c, to, epoch+1)
		}
	}
}

// P13.6: a new checkpoint in a slot in which a longer one has stood: the rest of that one's body stays, but for the last sector's end.
func TestP13_6OverAnOldCheckpoint(t *testing.T) {
	c := roomy()
	long, short := busy(t, c), empty(c)
	image := imageOf(t, c, 4, short)
	laid(image, c, 3, stateBytes(t, long))
	d := newDisk(t, image, c.Sectors)
	wantRecover(t, "a shorter one", d, c, short, 5, 0)
	at := (c.Slot + 1) * 128
	for i := range 128 {
		image[at+i] = 0
	}
	laid(image, c, 5, stateBytes(t, short))
	if !bytes.Equal(d.Image(), image) {
		t.Errorf("the disk is not what it should be")
	}
}

// P13.6: the operations are the body's sectors, a flush, the header, a flush, in this order and no others.
func TestP13_6Operations(t *testing.T) {
	for _, x := range []struct{ slot, size int }{{4, 60}, {4, 200}, {100, 128}, {100, 129}, {100, 1281}} {
		c, s := sized(t, x.slot, x.size)
		image := imageOf(t, c, 5, s)
		d := newDisk(t, image, c.Sectors)
		wantRecover(t, "some sectors", d, c, s, 6, 0)
		body, head, _ := mend.Layout(c, 6, s)
		n := len(body)
		want(t, "operations", d.Count(), n+3)
		seen, durable := bytes.Clone(image), bytes.Clone(image)
		for i := range n + 4 {
			if left, e := d.At(i, api.Crash{Torn: -1}); e != api.OK || !bytes.Equal(left, durable) {
				t.Errorf("%d bytes: behind %d operations something else is durable", x.size, i)
			}
			if left, e := d.At(i, api.Crash{Torn: -1, Keep: upto(n)}); e != api.OK || !bytes.Equal(left, seen) {
				t.Errorf("%d bytes: behind %d operations something else is seen", x.size, i)
			}
			switch {
			case i < n:
				copy(seen[body[i].Sector*128:], body[i].Bytes)
			case i == n+1:
				copy(seen[head.Sector*128:], head.Bytes)
			default:
				durable = bytes.Clone(seen)
			}
		}
		want(t, "loose writes", len(d.Pending()), 0)
	}
}

func upto(n int) []int {
	var l []int
	for i := range n {
		l = append(l, i)
	}
	return l
}

// P13.6: the last epoch.
func TestP13_6End(t *testing.T) {
	c := plain()
	d := newDisk(t, imageOf(t, c, api.MaxLife-2, empty(c)), c.Sectors)
	wantRecover(t, "the last but one", d, c, empty(c), api.MaxLife-1, 0)
	count, image := d.Count(), d.Image()
	wantNoRecover(t, "the last", d, c, api.ErrEnd)
	wantNewest(t, "the last", d, c, empty(c), api.MaxLife-1)
	logged(t, d, c, api.MaxLife-1, 0, record(t, restock("1", line("a", 5))))
	wantNoRecover(t, "the last, with a record", d, c, api.ErrEnd)
	d = newDisk(t, image, c.Sectors)
	logged(t, d, c, api.MaxLife-1, 0, []byte("no request"))
	wantNoRecover(t, "the last, with a record that is none", d, c, api.ErrEnd)
	image[(c.Slot+1)*128] ^= 1
	d = newDisk(t, image, c.Sectors)
	wantNoRecover(t, "the last, rotten", d, c, api.ErrRot)
	want(t, "operations", d.Count(), 0)
	want(t, "operations of one Recover", count, 4)
}

// P13.6: a log that holds what Replay does not take: nothing is done on the disk.
func TestP13_6Rot(t *testing.T) {
	c := roomy()
	s := busy(t, c)
	good := []api.Request{restock("n1", line("c", 3)), tick("n2", 5)}
	for name, p := range bad(t) {
		if len(p) == 0 || len(p) > api.MaxRecord {
			continue
		}
		for at := range len(good) + 1 {
			d := newDisk(t, imageOf(t, c, 2, s), c.Sectors)
			list := records(t, good[:at]...)
			list = append(list, p)
			list = append(list, records(t, good[at:]...)...)
			logged(t, d, c, 2, s.Lsn, list...)
			count, image := d.Count(), d.Image()
			wantNoRecover(t, name, d, c, api.ErrRot)
			if d.Count() != count || !bytes.Equal(d.Image(), image) {
				t.Errorf("%s: the disk has changed", name)
			}
			wantNewest(t, name, d, c, s, 2)
		}
	}
}

// P13.6: the log's sectors are all behind the slots, up to the last; the life is the epoch, and the numbers follow the state's Lsn.
func TestP13_6TheLog(t *testing.T) {
	c := plain()
	c.Codes, c.Sectors = []string{"a"}, 10
	s := empty(c)
	// Two sectors of log, each with a record that needs one.
	list := records(t, restock("1", line("a", 5)), restock("2", line("a", 6)))
	d := newDisk(t, imageOf(t, c, 3, s), c.Sectors)
	logged(t, d, c, 3, 0, list...)
	want(t, "the last sector is used", bytes.Equal(d.Image()[9*128:], make([]byte, 128)), false)
	wantRecover(t, "all sectors", d, c, behind(t, s, restock("1", line("a", 5)), restock("2", line("a", 6))), 4, 2)

	for _, life := range []int{1, 2, 4, 5, api.MaxLife} {
		d := newDisk(t, imageOf(t, c, 3, s), c.Sectors)
		logged(t, d, c, life, 0, list...)
		wantRecover(t, "the log of life "+strconv.Itoa(life), d, c, s, 4, 0)
	}
	for _, lsn := range []int{1, 2, 100, api.MaxLsn - 2} {
		d := newDisk(t, imageOf(t, c, 3, s), c.Sectors)
		logged(t, d, c, 3, lsn, list...)
		wantRecover(t, "a log behind number "+strconv.Itoa(lsn), d, c, s, 4, 0)
		u := empty(c)
		u.Lsn = lsn
		d = newDisk(t, imageOf(t, c, 3, u), c.Sectors)
		logged(t, d, c, 3, lsn, list...)
		wantRecover(t, "a state of number "+strconv.Itoa(lsn), d, c, behind(t, u, restock("1", line("a", 5)), restock("2", line("a", 6))), 4, 2)
	}
	// A log sector within the slots is none, and one that begins later is no beginning.
	d = newDisk(t, imageOf(t, c, 3, s), c.Sectors)
	sector, _ := wal.Sector(3, 0, append([]byte{1, byte(len(list[0]))}, list[0]...))
	d.Write(9, sector)
	d.Write(7, sector)
	wantRecover(t, "sectors elsewhere", d, c, s, 4, 0)
	d = newDisk(t, imageOf(t, c, 3, s), c.Sectors)
	d.Write(8, sector)
	wantRecover(t, "the first sector of the log", d, c, behind(t, s, restock("1", line("a", 5))), 4, 1)
}

// used answers a disk that has that image and takes just so many operations more.
func used(t *testing.T, image []byte, c api.Config, more int) *disk.Disk {
	t.Helper()
	d := newDisk(t, image, c.Sectors)
	for d.Count() < api.MaxOps-more {
		if e := d.Flush(); e != api.OK {
			t.Fatalf("Flush: %d", e)
		}
	}
	return d
}

// P13.6: a disk that refuses each of the operations in turn: what was done stays.
func TestP13_6ADiskThatIsFull(t *testing.T) {
	c, s := sized(t, 6, 300)
	c.Sectors = 16
	body, head, e := mend.Layout(c, 7, s)
	if len(body) != 3 || e != api.OK {
		t.Fatalf("%d sectors, %d", len(body), e)
	}
	start := newDisk(t, imageOf(t, c, 6, s), c.Sectors)
	for more := range len(body) + 4 {
		d := used(t, start.Image(), c, more)
		if more == len(body)+3 {
			wantRecover(t, "just enough", d, c, s, 7, 0)
			continue
		}
		seen := start.Image()
		for i, w := range append(append([]api.Write(nil), body...), api.Write{Sector: -1}, head) {
			if i < more && w.Sector >= 0 {
				copy(seen[w.Sector*128:], w.Bytes)
			}
		}
		wantNoRecover(t, "room for "+strconv.Itoa(more), d, c, api.ErrFull)
		want(t, "operations", d.Count(), api.MaxOps)
		if !bytes.Equal(d.Image(), seen) {
			t.Errorf("room for %d: what was done does not stay, or more was done", more)
		}
		// What is left is a disk that comes back.
		wantRecover(t, "anew", newDisk(t, d.Durable(), c.Sectors), c, s, 7, 0)
	}
}

// P13.6, R2: what is wrong on a disk comes ahead of what it refuses.
func TestP13_6FaultsAheadOfFull(t *testing.T) {
	c := roomy()
	d := newDisk(t, imageOf(t, c, 2, empty(c)), c.Sectors)
	logged(t, d, c, 2, 0, []byte("no request"))
	wantNoRecover(t, "rotten and full", used(t, d.Image(), c, 0), c, api.ErrRot)
	image := imageOf(t, c, api.MaxLife-1, empty(c))
	wantNoRecover(t, "ended and full", used(t, image, c, 0), c, api.ErrEnd)
	wantNoRecover(t, "blank and full", used(t, blank(c), c, 0), c, api.ErrNoState)
	wantNoRecover(t, "another store's and full", used(t, blank(c), c, 0), plain(), api.ErrSlot)
}
