package wal

import (
	"larder/api"
	"larder/disk"
)

// Scan answers the records from number lsn + 1 on that a life has left in its sectors, and how many sectors its stream has.
func Scan(d *disk.Disk, from, sectors, life, lsn int) ([][]byte, int, api.Errno) {
	if !fits(d, from, sectors, life, lsn) {
		return nil, 0, api.ErrArg
	}
	stream, count := streamOf(d, from, sectors, life)
	return recordsOf(stream, lsn), count, api.OK
}

// fits answers whether a log may have these sectors, this life and this last number.
func fits(d *disk.Disk, from, sectors, life, lsn int) bool {
	// from is held against what the sectors leave, as a sum of the two might run over.
	return d != nil && from >= 0 && sectors >= 1 && from <= d.Sectors()-sectors && isLife(life) && lsn >= 0 && lsn <= api.MaxLsn
}

// streamOf answers a life's stream, in memory of its own, and how many sectors it has.
func streamOf(d *disk.Disk, from, sectors, life int) ([]byte, int) {
	var stream []byte
	for n := range sectors {
		s, _ := d.Read(from + n)
		used, ok := Used(life, n, s)
		if !ok {
			return stream, n
		}
		stream = append(stream, used...)
	}
	return stream, sectors
}

// recordsOf cuts the records behind number lsn out of a stream, up to where no next one stands whole.
func recordsOf(stream []byte, lsn int) [][]byte {
	var list [][]byte
	for {
		lsn++
		p, rest, ok := cut(stream, lsn)
		if !ok {
			return list
		}
		list = append(list, p)
		stream = rest
	}
}
