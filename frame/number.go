package frame

import "larder/api"

// mostGroups is how many groups of seven bits a number of 64 bits needs; the last of them has one bit alone.
const mostGroups = 10

// wordBytes is how many bytes a word has.
const wordBytes = 8

// PutUint answers b's bytes and behind them n as a number.
func PutUint(b []byte, n uint64) []byte {
	return appendUint(fresh(b, mostGroups), n)
}

// Uint reads the number at the beginning of b: the number and how many bytes it took; else the error and its place.
func Uint(b []byte) (uint64, int, api.Errno) {
	var n uint64
	for i, c := range b {
		if i == mostGroups-1 && c > 1 {
			return 0, i, api.ErrWide
		}
		if i > 0 && c == 0 {
			return 0, i, api.ErrForm
		}
		n |= uint64(c&0x7f) << (7 * i)
		if c < 0x80 {
			return n, i + 1, api.OK
		}
	}
	return 0, len(b), api.ErrShort
}

// PutInt answers b's bytes and behind them n as a number: 2 n, or -2 n - 1 if n is below 0.
func PutInt(b []byte, n int) []byte {
	if n < 0 {
		// All bits of n turned are -n - 1, which fits even for the least int.
		return PutUint(b, uint64(^n)<<1|1)
	}
	return PutUint(b, uint64(n)<<1)
}

// Int reads the int at the beginning of b, as Uint does a number.
func Int(b []byte) (int, int, api.Errno) {
	u, place, e := Uint(b)
	n := int(u >> 1)
	if u&1 == 1 {
		n = ^n
	}
	return n, place, e
}

// PutWord answers b's bytes and behind them n in eight bytes, the lowest first.
func PutWord(b []byte, n uint64) []byte {
	return appendLow(fresh(b, wordBytes), n, wordBytes)
}

// Word is the number that the first eight bytes of b are; ErrShort, if b has fewer.
func Word(b []byte) (uint64, api.Errno) {
	if len(b) < wordBytes {
		return 0, api.ErrShort
	}
	return low(b[:wordBytes]), api.OK
}

// PutText answers b's bytes, the length of s as a number, and the bytes of s.
func PutText(b []byte, s string) []byte {
	b = appendUint(fresh(b, mostGroups+len(s)), uint64(len(s)))
	return append(b, s...)
}

// Text reads a text of at most most bytes at the beginning of b: the text and how many bytes it took with its length; else the error and its place.
func Text(b []byte, most int) (string, int, api.Errno) {
	if most < 0 {
		return "", 0, api.ErrArg
	}
	length, begin, e := Uint(b)
	if e != api.OK {
		return "", begin, e
	}
	if length > uint64(most) {
		return "", 0, api.ErrLength
	}
	// Held against the bytes that are there, as a sum of the two might run over.
	if length > uint64(len(b)-begin) {
		return "", len(b), api.ErrShort
	}
	end := begin + int(length)
	return string(b[begin:end]), end, api.OK
}

// fresh copies b into memory of its own with room behind it, since what a caller handed in may be neither written nor kept.
func fresh(b []byte, room int) []byte {
	return append(make([]byte, 0, len(b)+room), b...)
}

func appendUint(b []byte, n uint64) []byte {
	for ; n >= 0x80; n >>= 7 {
		b = append(b, byte(n)|0x80)
	}
	return append(b, byte(n))
}

func appendLow(b []byte, n uint64, count int) []byte {
	for range count {
		b = append(b, byte(n))
		n >>= 8
	}
	return b
}

func low(b []byte) uint64 {
	var n uint64
	for i, c := range b {
		n |= uint64(c) << (8 * i)
	}
	return n
}
