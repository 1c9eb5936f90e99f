package mend_test

import (
	"bytes"
	"encoding/binary"
	"fmt"
	"hash/crc32"
	"math"
	"slices"
	"strings"
	"testing"

	"larder/api"
	"larder/codec"
	"larder/disk"
	"larder/mend"
	"larder/stock"
	"larder/wal"
)

const (
	greatest = math.MaxInt
	least    = math.MinInt
)

func want[T comparable](t *testing.T, name string, got, want T) {
	t.Helper()
	if got != want {
		t.Errorf("%s: %v, want %v", name, got, want)
	}
}

// show answers a thing in words, as many of them as one can read.
func show(v any) string { return fmt.Sprintf("%.600s", fmt.Sprintf("%+v", v)) }

// plain is the configuration of the document's examples.
func plain() api.Config {
	return api.Config{Codes: []string{"a", "b"}, Stripes: 4, Handlers: 2, Sectors: 16, Slot: 4}
}

// roomy has room for some hundred requests.
func roomy() api.Config {
	return api.Config{Codes: []string{"a", "b", "c"}, Stripes: 4, Handlers: 2, Sectors: 400, Slot: 100}
}

// Requests, short.

func line(code string, qty int) api.Line { return api.Line{Code: code, Qty: qty} }

func restock(id string, l ...api.Line) api.Request {
	return api.Request{Id: id, Kind: api.KindRestock, Lines: l}
}

func writeoff(id string, l ...api.Line) api.Request {
	return api.Request{Id: id, Kind: api.KindWriteoff, Lines: l}
}

func hold(id string, ttl int, l ...api.Line) api.Request {
	return api.Request{Id: id, Kind: api.KindHold, Lines: l, Ttl: ttl}
}

func commit(id, name string) api.Request {
	return api.Request{Id: id, Kind: api.KindCommit, Hold: name}
}

func release(id, name string) api.Request {
	return api.Request{Id: id, Kind: api.KindRelease, Hold: name}
}

func extend(id, name string, ttl int) api.Request {
	return api.Request{Id: id, Kind: api.KindExtend, Hold: name, Ttl: ttl}
}

func tick(id string, now int) api.Request {
	return api.Request{Id: id, Kind: api.KindTick, Now: now}
}

// record answers a request's bytes as they stand, whether a store would write them or not.
func record(t *testing.T, r api.Request) []byte {
	t.Helper()
	b, e := codec.PutRequest(r)
	if e != api.OK {
		t.Fatalf("PutRequest(%s): %d", show(r), e)
	}
	return b
}

func records(t *testing.T, list ...api.Request) [][]byte {
	t.Helper()
	var l [][]byte
	for _, r := range list {
		l = append(l, record(t, r))
	}
	return l
}

// States.

func empty(c api.Config) api.State {
	s := api.State{Room: (c.Slot - 1) * 128}
	for _, code := range c.Codes {
		s.Levels = append(s.Levels, api.Level{Code: code})
	}
	return s
}

// behind answers the state of a ledger that has done all of a list.
func behind(t *testing.T, s api.State, list ...api.Request) api.State {
	t.Helper()
	l, e := stock.From(s)
	if e != api.OK {
		t.Fatalf("not sound: %s", show(s))
	}
	for _, r := range list {
		if reply := l.Do(r); reply.Err != api.OK {
			t.Fatalf("Do(%s): %s", show(r), show(reply))
		}
	}
	return l.State()
}

// busy answers a state in which there is some of all things.
func busy(t *testing.T, c api.Config) api.State {
	t.Helper()
	return behind(t, empty(c), restock("1", line("a", 9), line("b", 4)), hold("h", 10, line("a", 2)), tick("t", 4), writeoff("w", line("b", 1)), hold("g", 100, line("a", 3), line("b", 1)))
}

func stateBytes(t *testing.T, s api.State) []byte {
	t.Helper()
	b, e := codec.PutState(s)
	if e != api.OK {
		t.Fatalf("PutState(%s): %d", show(s), e)
	}
	return b
}

// sameState holds two states against each other, nil and empty lists alike.
func sameState(s, u api.State) bool {
	b, e := codec.PutState(s)
	v, f := codec.PutState(u)
	return e == api.OK && f == api.OK && bytes.Equal(b, v)
}

func isZero(s api.State) bool {
	return s.Room == 0 && s.Lsn == 0 && s.Now == 0 && len(s.Levels) == 0 && len(s.Holds) == 0 && len(s.Done) == 0
}

func copyRequest(r api.Request) api.Request {
	r.Lines = append([]api.Line(nil), r.Lines...)
	return r
}

// copyState answers a state in memory of its own.
func copyState(s api.State) api.State {
	u := api.State{Room: s.Room, Lsn: s.Lsn, Now: s.Now}
	u.Levels = append(u.Levels, s.Levels...)
	for _, h := range s.Holds {
		u.Holds = append(u.Holds, api.Held{Id: h.Id, Lines: append([]api.Line(nil), h.Lines...), Deadline: h.Deadline})
	}
	for _, d := range s.Done {
		u.Done = append(u.Done, api.Done{Request: copyRequest(d.Request), At: d.At})
	}
	return u
}

// Disks, written from the document alone.

// header answers the sector of four words.
func header(first, size, sum, last uint64) []byte {
	b := make([]byte, 128)
	binary.LittleEndian.PutUint64(b[0:], first)
	binary.LittleEndian.PutUint64(b[8:], size)
	binary.LittleEndian.PutUint64(b[16:], sum)
	binary.LittleEndian.PutUint64(b[120:], last)
	return b
}

func sumOf(b []byte) uint64 {
	return uint64(crc32.Checksum(b, crc32.MakeTable(crc32.Castagnoli)))
}

// blank answers the image of a disk of zeros.
func blank(c api.Config) []byte { return make([]byte, c.Sectors*128) }

// lay puts a header and a body into a slot of an image.
func lay(image []byte, c api.Config, slot int, head, body []byte) {
	at := slot * c.Slot * 128
	copy(image[at:at+128], head)
	copy(image[at+128:], body)
}

// laid puts a whole checkpoint of any bytes into its slot.
func laid(image []byte, c api.Config, epoch int, body []byte) {
	e := uint64(epoch)
	lay(image, c, epoch%2, header(e, uint64(len(body)), sumOf(body), e), body)
}

// imageOf answers the image of a disk with just this checkpoint.
func imageOf(t *testing.T, c api.Config, epoch int, s api.State) []byte {
	t.Helper()
	image := blank(c)
	laid(image, c, epoch, stateBytes(t, s))
	return image
}

func newDisk(t *testing.T, image []byte, sectors int) *disk.Disk {
	t.Helper()
	d, e := disk.New(image, sectors)
	if d == nil || e != api.OK {
		t.Fatalf("disk.New(%d bytes, %d): %d", len(image), sectors, e)
	}
	return d
}

// formatted answers the disk of a new store.
func formatted(t *testing.T, c api.Config) *disk.Disk {
	t.Helper()
	image, e := mend.Format(c)
	if e != api.OK {
		t.Fatalf("Format(%s): %d", show(c), e)
	}
	return newDisk(t, image, c.Sectors)
}

// logged makes records durable in the log of a life, each in a flush of its own.
func logged(t *testing.T, d *disk.Disk, c api.Config, life, lsn int, list ...[]byte) {
	t.Helper()
	l, e := wal.Open(d, 2*c.Slot, c.Sectors-2*c.Slot, life, lsn, c.Stripes)
	if e != api.OK {
		t.Fatalf("wal.Open: %d", e)
	}
	for i, p := range list {
		if e := l.Reserve(len(p)); e != api.OK {
			t.Fatalf("no room for record %d: %d", i, e)
		}
		n, _ := l.Number()
		if e := l.Append(0, n, p); e != api.OK {
			t.Fatalf("Append: %d", e)
		}
		l.Collect()
		for last := false; !last; {
			if last, e = l.Write(); e != api.OK {
				t.Fatalf("Write: %d", e)
			}
		}
		if e := l.Barrier(); e != api.OK {
			t.Fatalf("Barrier: %d", e)
		}
	}
}

// save saves a checkpoint as the document says.
func save(t *testing.T, d *disk.Disk, c api.Config, epoch int, s api.State) {
	t.Helper()
	body, head, e := mend.Layout(c, epoch, s)
	if e != api.OK {
		t.Fatalf("Layout(%s, %d, %s): %d", show(c), epoch, show(s), e)
	}
	for _, w := range body {
		want(t, "Write", d.Write(w.Sector, w.Bytes), api.OK)
	}
	want(t, "Flush", d.Flush(), api.OK)
	want(t, "Write", d.Write(head.Sector, head.Bytes), api.OK)
	want(t, "Flush", d.Flush(), api.OK)
}

// What the calls answer.

func wantNewest(t *testing.T, name string, d *disk.Disk, c api.Config, s api.State, epoch int) {
	t.Helper()
	got, e, err := mend.Newest(d, c)
	if !sameState(got, s) || e != epoch || err != api.OK {
		t.Errorf("%s: Newest: %s, %d, %d; want %s, %d", name, show(got), e, err, show(s), epoch)
	}
}

func wantNoNewest(t *testing.T, name string, d *disk.Disk, c api.Config, want api.Errno) {
	t.Helper()
	got, e, err := mend.Newest(d, c)
	if !isZero(got) || e != 0 || err != want {
		t.Errorf("%s: Newest: %s, %d, %d; want zeros and %d", name, show(got), e, err, want)
	}
}

func wantReplay(t *testing.T, name string, s api.State, list [][]byte, to api.State, count int, want api.Errno) {
	t.Helper()
	got, n, e := mend.Replay(s, list)
	if !sameState(got, to) || n != count || e != want {
		t.Errorf("%s: Replay: %s, %d, %d; want %s, %d, %d", name, show(got), n, e, show(to), count, want)
	}
}

func wantRecover(t *testing.T, name string, d *disk.Disk, c api.Config, s api.State, epoch, count int) {
	t.Helper()
	got, e, n, err := mend.Recover(d, c)
	if !sameState(got, s) || e != epoch || n != count || err != api.OK {
		t.Errorf("%s: Recover: %s, %d, %d, %d; want %s, %d, %d", name, show(got), e, n, err, show(s), epoch, count)
	}
}

func wantNoRecover(t *testing.T, name string, d *disk.Disk, c api.Config, want api.Errno) {
	t.Helper()
	got, e, n, err := mend.Recover(d, c)
	if !isZero(got) || e != 0 || n != 0 || err != want {
		t.Errorf("%s: Recover: %s, %d, %d, %d; want zeros and %d", name, show(got), e, n, err, want)
	}
}

func wantNoLayout(t *testing.T, name string, c api.Config, epoch int, s api.State, want api.Errno) {
	t.Helper()
	body, head, e := mend.Layout(c, epoch, s)
	if len(body) != 0 || head.Sector != 0 || len(head.Bytes) != 0 || e != want {
		t.Errorf("%s: Layout: %d writes, header in %d of %d bytes, %d; want none and %d", name, len(body), head.Sector, len(head.Bytes), e, want)
	}
}

// times answers a text of n times the same byte.
func times(b byte, n int) string { return strings.Repeat(string([]byte{b}), n) }

// names answers n different texts of so many bytes, in order.
func names(n, size int) []string {
	var l []string
	for i := range n {
		l = append(l, times('x', size-2)+string([]byte{byte(33 + i/94), byte(33 + i%94)}))
	}
	return l
}

func sameConfig(c, k api.Config) bool {
	return slices.Equal(c.Codes, k.Codes) && c.Stripes == k.Stripes && c.Handlers == k.Handlers && c.Sectors == k.Sectors && c.Slot == k.Slot
}
