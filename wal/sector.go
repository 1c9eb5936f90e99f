package wal

import (
	"bytes"

	"larder/api"
	"larder/frame"
)

// A log sector has a stamp at either end, so that one of which only the beginning was written is told.
const (
	stampBytes = 8
	countAt    = stampBytes
	usedAt     = countAt + 1
	tailAt     = api.SectorBytes - stampBytes
)

// headBytes is how many bytes a record's number (up to MaxLsn) and its length (up to MaxRecord) take at most in the stream.
const headBytes = 9 + 2

// Need answers how many sectors a record of n bytes needs at most; 0, if no record has n bytes.
func Need(n int) int {
	if n < 1 || n > api.MaxRecord {
		return 0
	}
	return (n + headBytes + api.LogBytes - 1) / api.LogBytes
}

// Stamp answers the stamp of sector n of a life; 0, if there is no such sector.
func Stamp(life, n int) uint64 {
	if !isLife(life) || n < 0 || n >= api.MaxSectors {
		return 0
	}
	return uint64(life)*api.MaxSectors + uint64(n)
}

// Sector answers the bytes of the log sector whose used bytes are p.
func Sector(life, n int, p []byte) ([]byte, api.Errno) {
	stamp := Stamp(life, n)
	if stamp == 0 {
		return nil, api.ErrArg
	}
	if len(p) > api.LogBytes {
		return nil, api.ErrRecord
	}
	s := make([]byte, api.SectorBytes)
	copy(s, frame.PutWord(nil, stamp))
	s[countAt] = byte(len(p))
	copy(s[usedAt:], p)
	copy(s[tailAt:], frame.PutWord(nil, stamp))
	return s, api.OK
}

// Used answers the used bytes of s, if it is the log sector n of that life.
func Used(life, n int, s []byte) ([]byte, bool) {
	stamp := Stamp(life, n)
	if stamp == 0 || len(s) != api.SectorBytes {
		return nil, false
	}
	head, _ := frame.Word(s)
	tail, _ := frame.Word(s[tailAt:])
	count := int(s[countAt])
	if head != stamp || tail != stamp || count > api.LogBytes {
		return nil, false
	}
	return bytes.Clone(s[usedAt : usedAt+count]), true
}

func isLife(life int) bool { return life >= 1 && life <= api.MaxLife }
