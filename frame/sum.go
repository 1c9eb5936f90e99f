package frame

import "larder/api"

// polynomial is that of CRC-32C as a register holds it: the top bit is worth 1, each bit below it x times the one above. So a register that moves down by one bit is multiplied by x, modulo the polynomial.
const polynomial = 0x82f63b78

// These are powers of x in a register: x to the 0, and x to the 8, by which a byte 0 multiplies.
const (
	powerZero  = 1 << 31
	powerEight = 1 << 23
)

// halfSums tells for each half byte what a register that holds it alone becomes when it moves down by four bits.
var halfSums [16]uint32

func init() {
	for half := range halfSums {
		register := uint32(half)
		for range 4 {
			register = moveBit(register)
		}
		halfSums[half] = register
	}
}

// Crc is the sum of p.
func Crc(p []byte) uint32 { return CrcOn(0, p) }

// CrcOn is the sum of x and p, one behind the other, for any bytes x whose sum is c.
func CrcOn(c uint32, p []byte) uint32 {
	register := ^c
	for _, b := range p {
		register ^= uint32(b)
		register = register>>4 ^ halfSums[register&15]
		register = register>>4 ^ halfSums[register&15]
	}
	return ^register
}

// CrcJoin is the sum of x and y, one behind the other, for any bytes x whose sum is a and any n bytes y whose sum is b; ErrArg, if n is below 0 or above MaxJoin.
func CrcJoin(a, b uint32, n int) (uint32, api.Errno) {
	if n < 0 || n > api.MaxJoin {
		return 0, api.ErrArg
	}
	return times(a, power(powerEight, n)) ^ b, api.OK
}

// Turned answers the one bit of p with which turned p would have the sum c; -1 and false, if there is none or p has more than MaxFrame bytes.
func Turned(p []byte, c uint32) (int, bool) {
	if len(p) > api.MaxFrame {
		return -1, false
	}
	wanted := Crc(p) ^ c
	// What a turned bit does to the sum hangs only on how many bits stand behind it: each one more is one more multiplication by x.
	change := uint32(polynomial)
	for bit := 8*len(p) - 1; bit >= 0; bit-- {
		if change == wanted {
			return bit, true
		}
		change = moveBit(change)
	}
	return -1, false
}

func moveBit(register uint32) uint32 {
	if register&1 == 1 {
		return register>>1 ^ polynomial
	}
	return register >> 1
}

func times(a, b uint32) uint32 {
	var product uint32
	for bit := uint32(powerZero); bit != 0; bit >>= 1 {
		if a&bit != 0 {
			product ^= b
		}
		b = moveBit(b)
	}
	return product
}

// power squares its way up, since n may be as large as MaxJoin.
func power(base uint32, n int) uint32 {
	product := uint32(powerZero)
	for ; n > 0; n >>= 1 {
		if n&1 == 1 {
			product = times(product, base)
		}
		base = times(base, base)
	}
	return product
}
