package mend

import (
	"bytes"

	"larder/api"
	"larder/codec"
	"larder/disk"
	"larder/frame"
	"larder/stock"
	"larder/wal"
)

// fault is what is wrong on a disk: whoever meets it gives up with it.
type fault struct{ err api.Errno }

// told answers the error of what recover met.
func told(met any) api.Errno {
	if met == nil {
		return api.OK
	}
	return met.(fault).err
}

// newest answers what the newest checkpoint holds, and its epoch.
func newest(d *disk.Disk, c api.Config) (api.State, int) {
	if d == nil {
		panic(fault{api.ErrArg})
	}
	if e := Check(c); e != api.OK {
		panic(fault{e})
	}
	if d.Sectors() != c.Sectors {
		panic(fault{api.ErrSlot})
	}
	h := newestHeader(d, c)
	b := bodyOf(d, c, h)
	if uint64(frame.Crc(b)) != h.sum {
		panic(fault{api.ErrRot})
	}
	s, e, _ := codec.State(b)
	if e != api.OK || !suits(c, s) {
		panic(fault{api.ErrRot})
	}
	return s, int(h.epoch)
}

// newestHeader answers the right header of the two slots' that has the greater epoch. The body behind the other one may be half overwritten, so that it is no way out.
func newestHeader(d *disk.Disk, c api.Config) header {
	var best header
slots:
	for slot := range 2 {
		s, _ := d.Read(slotOf(c, slot))
		h := headerOf(s)
		for _, right := range h.rules(slot, Room(c)) {
			if !right {
				continue slots
			}
		}
		if h.epoch > best.epoch {
			best = h
		}
	}
	if best.epoch == 0 {
		panic(fault{api.ErrNoState})
	}
	return best
}

// bodyOf answers as many bytes of a body as its header, which is right, says.
func bodyOf(d *disk.Disk, c api.Config, h header) []byte {
	var b []byte
	for at := slotOf(c, int(h.epoch)) + 1; len(b) < int(h.size); at++ {
		s, _ := d.Read(at)
		b = append(b, s...)
	}
	return b[:h.size]
}

// redo has a record's effect on a ledger, and answers whether it is one that a store would have written behind those that the ledger has had.
func redo(l *stock.Ledger, record []byte) bool {
	r, e, _ := codec.Request(record)
	if e != api.OK || !isNormal(r, record) || !stock.Changes(r.Kind) || remembers(l, r) {
		return false
	}
	return l.Do(r).Err == api.OK
}

// isNormal answers whether the request that a record is of is its own Normal. Each request has one form in bytes alone, so these tell.
func isNormal(r api.Request, record []byte) bool {
	n, e, _ := stock.Normal(r)
	b, _ := codec.PutRequest(n)
	return e == api.OK && bytes.Equal(b, record)
}

// remembers answers whether a ledger remembers r, which would have its first reply then, and no effect. The ledger is asked for something else by r's Id: that is ErrOther, if it remembers the Id. (If it remembers it of just that something else, r itself is refused.)
func remembers(l *stock.Ledger, r api.Request) bool {
	other := api.Request{Id: r.Id, Kind: api.KindTick}
	if r.Now == 0 {
		other.Now = 1
	}
	return l.Would(other).Err == api.ErrOther
}

// revive brings a store back, and answers its state, the epoch of its new checkpoint and how many records were done.
func revive(d *disk.Disk, c api.Config) (api.State, int, int) {
	s, epoch := newest(d, c)
	if epoch == api.MaxLife-1 {
		panic(fault{api.ErrEnd})
	}
	records, _, _ := wal.Scan(d, logOf(c), c.Sectors-logOf(c), epoch, s.Lsn)
	s, n, e := Replay(s, records)
	if e != api.OK {
		panic(fault{api.ErrRot})
	}
	body, head := checkpoint(c, epoch+1, s)
	safely(d, body...)
	safely(d, head)
	return s, epoch + 1, n
}

// safely writes sectors and makes them durable.
func safely(d *disk.Disk, list ...api.Write) {
	for _, w := range list {
		if d.Write(w.Sector, w.Bytes) != api.OK {
			panic(fault{api.ErrFull})
		}
	}
	if d.Flush() != api.OK {
		panic(fault{api.ErrFull})
	}
}
