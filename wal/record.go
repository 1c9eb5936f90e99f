package wal

import (
	"larder/api"
	"larder/frame"
)

// record is some bytes with their number.
type record struct {
	lsn   int
	bytes []byte
}

// laid answers stream and behind it the record: its number, its length and its bytes.
func (r record) laid(stream []byte) []byte {
	stream = append(stream, frame.PutUint(nil, uint64(r.lsn))...)
	stream = append(stream, frame.PutUint(nil, uint64(len(r.bytes)))...)
	return append(stream, r.bytes...)
}

// cut parts the stream behind the record with that number, with which it begins: the record's bytes, and the rest; false, if no such record stands there whole.
func cut(stream []byte, lsn int) (p, rest []byte, ok bool) {
	number, took, e := frame.Uint(stream)
	if e != api.OK || number != uint64(lsn) {
		return nil, nil, false
	}
	stream = stream[took:]
	length, took, e := frame.Uint(stream)
	if e != api.OK || length < 1 || length > api.MaxRecord {
		return nil, nil, false
	}
	stream = stream[took:]
	if uint64(len(stream)) < length {
		return nil, nil, false
	}
	// Without room behind it, since what is laid behind one record must not run into the next.
	return stream[:length:length], stream[length:], true
}

// heaped is records as a heap (container/heap), the least number first.
type heaped []record

func (h heaped) Len() int { return len(h) }

func (h heaped) Less(i, j int) bool { return h[i].lsn < h[j].lsn }

func (h heaped) Swap(i, j int) { h[i], h[j] = h[j], h[i] }

// Push is the heap's own: it lays a record at the list's end.
func (h *heaped) Push(x any) { *h = append(*h, x.(record)) }

// Pop is the heap's own: it takes the record at the list's end.
func (h *heaped) Pop() any {
	last := len(*h) - 1
	r := (*h)[last]
	// Else the list would keep the bytes of a record that is gone.
	(*h)[last] = record{}
	*h = (*h)[:last]
	return r
}

// begins answers whether the least number is lsn.
func (h heaped) begins(lsn int) bool { return len(h) > 0 && h[0].lsn == lsn }
