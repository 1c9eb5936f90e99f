// Package frame has what every byte of the service is made of: a sum that tells damaged bytes, numbers in as few bytes as they need, texts with their length, and sealed frames.
package frame

import (
	"iter"

	"larder/api"
)

// mark is the byte with which every frame begins.
const mark = 0xa7

// sumBytes is how many bytes of sum stand at the end of a frame.
const sumBytes = 4

// Seal answers the frame of p: the mark, the length, p and the sum of all these; ErrLong, if p has more than MaxFrame bytes.
func Seal(p []byte) ([]byte, api.Errno) {
	if len(p) > api.MaxFrame {
		return nil, api.ErrLong
	}
	b := make([]byte, 0, 1+mostGroups+len(p)+sumBytes)
	b = append(b, mark)
	b = appendUint(b, uint64(len(p)))
	b = append(b, p...)
	return appendLow(b, uint64(Crc(b)), sumBytes), api.OK
}

// Unseal reads the frame at the beginning of b: its load and how many bytes the frame has; else the error and its place in b.
func Unseal(b []byte) ([]byte, int, api.Errno, int) {
	if len(b) == 0 {
		return nil, 0, api.ErrShort, 0
	}
	if b[0] != mark {
		return nil, 0, api.ErrMark, 0
	}
	length, took, e := Uint(b[1:])
	if e != api.OK {
		return nil, 0, e, 1 + took
	}
	if length > api.MaxFrame {
		return nil, 0, api.ErrLength, 1
	}
	begin := 1 + took
	end := begin + int(length)
	if len(b) < end+sumBytes {
		return nil, 0, api.ErrShort, len(b)
	}
	if uint64(Crc(b[:end])) != low(b[end:end+sumBytes]) {
		return nil, 0, api.ErrSum, end
	}
	return fresh(b[begin:end], 0), end + sumBytes, api.OK, 0
}

// Scan answers the loads of the frames that stand in b, one behind the other; if b does not end where a frame ends, also the first fault and its place.
func Scan(b []byte) ([][]byte, api.Errno, int) {
	var loads [][]byte
	for at := 0; at < len(b); {
		load, size, e, place := Unseal(b[at:])
		if e != api.OK {
			return loads, e, at + place
		}
		loads = append(loads, load)
		at += size
	}
	return loads, api.OK, 0
}

// Each goes over the frames of Scan(b): the place at which a frame begins, and its load.
func Each(b []byte) iter.Seq2[int, []byte] {
	// The caller may write into b while the iterator is still in use.
	row := fresh(b, 0)
	return func(yield func(int, []byte) bool) {
		for at := 0; at < len(row); {
			load, size, e, _ := Unseal(row[at:])
			if e != api.OK || !yield(at, load) {
				return
			}
			at += size
		}
	}
}
