package mend

import (
	"slices"

	"larder/api"
	"larder/codec"
	"larder/frame"
	"larder/stock"
)

const wordBytes = 8

// slotOf answers the first sector of the slot of an epoch: by turns, so that a checkpoint that is half written never stands where the one ahead of it does.
func slotOf(c api.Config, epoch int) int { return epoch % 2 * c.Slot }

// logOf answers the first sector of the log, which is also how many the slots have.
func logOf(c api.Config) int { return 2 * c.Slot }

// suits answers whether a state is one of a store that is made so.
func suits(c api.Config, s api.State) bool {
	same := func(v api.Level, code string) bool { return v.Code == code }
	return stock.Sound(s) && s.Room == Room(c) && slices.EqualFunc(s.Levels, c.Codes, same)
}

// checkpoint answers the body and the header of a state that suits.
func checkpoint(c api.Config, epoch int, s api.State) ([]api.Write, api.Write) {
	// A sound state's bytes are no more than it weighs, so they are never too many for codec, nor for the slot.
	b, _ := codec.PutState(s)
	h := header{epoch: uint64(epoch), size: uint64(len(b)), sum: uint64(frame.Crc(b)), again: uint64(epoch)}
	at := slotOf(c, epoch)
	return writes(at+1, sectors(b)...), writes(at, h.bytes())[0]
}

// writes answers the writes of sectors that lie one behind the other.
func writes(first int, sectors ...[]byte) []api.Write {
	list := make([]api.Write, 0, len(sectors))
	for i, s := range sectors {
		list = append(list, api.Write{Sector: first + i, Bytes: s})
	}
	return list
}

// sectors cuts bytes into sectors in memory of their own, the last filled up with zeros.
func sectors(b []byte) [][]byte {
	var list [][]byte
	for piece := range slices.Chunk(b, api.SectorBytes) {
		s := make([]byte, api.SectorBytes)
		copy(s, piece)
		list = append(list, s)
	}
	return list
}

// header is the words of a slot's first sector; those of the epoch stand at its two ends, so that one that is torn has two that differ.
type header struct {
	epoch uint64
	size  uint64 // of the body, in bytes
	sum   uint64 // of the body
	again uint64 // the epoch
}

// bytes answers the header's sector.
func (h header) bytes() []byte {
	var b []byte
	for _, w := range []uint64{h.epoch, h.size, h.sum} {
		b = frame.PutWord(b, w)
	}
	b = append(b, make([]byte, api.SectorBytes-wordBytes-len(b))...)
	return frame.PutWord(b, h.again)
}

// headerOf reads a sector as a header, whatever stands in it.
func headerOf(s []byte) header {
	return header{
		epoch: word(s, 0),
		size:  word(s, wordBytes),
		sum:   word(s, 2*wordBytes),
		again: word(s, api.SectorBytes-wordBytes),
	}
}

func word(s []byte, at int) uint64 {
	w, _ := frame.Word(s[at:])
	return w
}

// rules answers, rule by rule, whether a header is right for a slot.
func (h header) rules(slot, room int) []bool {
	return []bool{
		h.epoch == h.again,
		h.epoch >= 1 && h.epoch < api.MaxLife,
		h.epoch%2 == uint64(slot),
		h.size <= uint64(room),
	}
}
