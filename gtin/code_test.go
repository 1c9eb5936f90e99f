package gtin_test

import (
	"math"
	"math/rand"
	"strings"
	"testing"

	"larder/api"
	"larder/gtin"
)

// slowSum adds up as section 2.1 tells it.
func slowSum(text string) int {
	total, times := 0, 1
	for i := len(text) - 1; i >= 0; i-- {
		total += times * strings.IndexByte("0123456789", text[i])
		times = 4 - times
	}
	return total
}

// slowDigit tries all ten.
func slowDigit(body string) string {
	for _, d := range strings.Split("0123456789", "") {
		if slowSum(body+d)%10 == 0 {
			return d
		}
	}
	return ""
}

func randomDigits(r *rand.Rand, n int) string {
	b := make([]byte, n)
	for i := range b {
		b[i] = byte('0' + r.Intn(10))
	}
	return string(b)
}

func randomCode(r *rand.Rand, size int) string {
	body := randomDigits(r, size-1)
	return body + slowDigit(body)
}

// replaced answers text with another byte at a place.
func replaced(text string, at int, c byte) string { return text[:at] + string([]byte{c}) + text[at+1:] }

// others are all bytes that are no digits.
func others() []byte {
	var l []byte
	for c := range 256 {
		if c < '0' || c > '9' {
			l = append(l, byte(c))
		}
	}
	return l
}

var codeSizes = []int{8, 12, 13, 14, 18}

func wantCheck(t *testing.T, code string, want api.Errno, wantAt int) {
	t.Helper()
	if e, at := gtin.Check(code); e != want || at != wantAt {
		t.Errorf("Check(%q): %d, %d; want %d, %d", code, e, at, want, wantAt)
	}
}

// wantText holds the answer of a call that tells a text and an error.
func wantText(t *testing.T, name, code, want string, wantE api.Errno) func(string, api.Errno) {
	return func(got string, e api.Errno) {
		t.Helper()
		if got != want || e != wantE {
			t.Errorf("%s of %q: %q, %d; want %q, %d", name, code, got, e, want, wantE)
		}
	}
}

func TestP2_1DigitMakesTheSumHold(t *testing.T) {
	r := rand.New(rand.NewSource(1))
	for size := 1; size <= 17; size++ {
		for range 200 {
			body := randomDigits(r, size)
			if d, e := gtin.Digit(body); string([]byte{d}) != slowDigit(body) || e != api.OK {
				t.Fatalf("Digit(%q): %q, %d; want %s", body, d, e, slowDigit(body))
			}
		}
	}
	for d := range 10 {
		body := string([]byte{byte('0' + d)})
		if got, e := gtin.Digit(body); string([]byte{got}) != slowDigit(body) || e != api.OK {
			t.Errorf("Digit(%q): %q, %d", body, got, e)
		}
	}
}

func TestP2_1DigitsErrors(t *testing.T) {
	want := func(body string, want api.Errno) {
		t.Helper()
		if d, e := gtin.Digit(body); d != 0 || e != want {
			t.Errorf("Digit(%q): %d, %d; want 0, %d", body, d, e, want)
		}
	}
	want("", api.ErrShort)
	want(strings.Repeat("1", 18), api.ErrLong)
	want(strings.Repeat("x", 18), api.ErrLong)
	want(strings.Repeat("1", 100000), api.ErrLong)
	for size := 1; size <= 17; size++ {
		for at := range size {
			for _, c := range others() {
				want(replaced(strings.Repeat("7", size), at, c), api.ErrDigit)
			}
		}
	}
}

func TestP2_2CheckTakesCodesOfFiveSizes(t *testing.T) {
	r := rand.New(rand.NewSource(2))
	for size := range 30 {
		code := strings.Repeat("0", size)
		switch size {
		case 8, 12, 13, 14, 18:
			for range 200 {
				wantCheck(t, randomCode(r, size), api.OK, 0)
			}
			wantCheck(t, code, api.OK, 0)
		default:
			if size > 18 {
				wantCheck(t, code, api.ErrLong, 0)
				wantCheck(t, replaced(code, 3, 'x'), api.ErrLong, 0)
			} else {
				wantCheck(t, code, api.ErrSize, size)
			}
		}
	}
	wantCheck(t, "", api.ErrSize, 0)
	wantCheck(t, "7", api.ErrSize, 1)
}

func TestP2_2CheckTellsTheFirstByteThatIsNoDigit(t *testing.T) {
	for size := 1; size <= 18; size++ {
		for at := range size {
			for _, c := range others() {
				wantCheck(t, replaced(strings.Repeat("1", size), at, c), api.ErrDigit, at)
			}
			two := replaced(replaced(strings.Repeat("1", size), size-1, 'y'), at, 'x')
			wantCheck(t, two, api.ErrDigit, at)
		}
	}
}

func TestP2_3NormalHas14Digits(t *testing.T) {
	r := rand.New(rand.NewSource(3))
	for _, size := range []int{8, 12, 13, 14} {
		for range 100 {
			code := randomCode(r, size)
			got, e := gtin.Normal(code)
			wantText(t, "Normal", code, strings.Repeat("0", 14-size)+code, api.OK)(got, e)
			wantCheck(t, got, api.OK, 0)
		}
	}
}

// wrongCodes are texts that are no trade codes, and Normal's error.
var wrongCodes = []struct {
	code string
	e    api.Errno
}{
	{"", api.ErrSize}, {"0", api.ErrSize}, {"1234567", api.ErrSize}, {"123456789", api.ErrSize}, {strings.Repeat("0", 15), api.ErrSize},
	{strings.Repeat("0", 18), api.ErrSize}, {"106141412345678908", api.ErrSize}, {strings.Repeat("0", 19), api.ErrLong},
	{"12345671", api.ErrCheck}, {strings.Repeat("0", 17) + "1", api.ErrCheck}, {"1234567x", api.ErrDigit}, {"x", api.ErrDigit},
}

func TestP2_3To2_5WrongCodes(t *testing.T) {
	for _, x := range wrongCodes {
		wantText(t, "Normal", x.code, "", x.e)(gtin.Normal(x.code))
		wantText(t, "Short", x.code, "", x.e)(gtin.Short(x.code))
		wantText(t, "Unit", x.code, "", x.e)(gtin.Unit(x.code))
		for _, level := range []int{1, 9, 0, 10, -1, math.MinInt, math.MaxInt} {
			wantText(t, "Pack", x.code, "", x.e)(gtin.Pack(x.code, level))
		}
	}
}

func TestP2_4ShortTakesZerosOff(t *testing.T) {
	r := rand.New(rand.NewSource(4))
	for zeros := range 15 {
		take := 0
		for _, n := range []int{1, 2, 6} {
			if n <= zeros {
				take = n
			}
		}
		normal := strings.Repeat("0", zeros)
		for len(normal) < 14 {
			body := strings.Repeat("0", zeros) + string([]byte{byte('1' + r.Intn(9))}) + randomDigits(r, 20)
			body = body[:13]
			if d := slowDigit(body); zeros < 13 || d != "0" {
				normal = body + d
			} else {
				break
			}
		}
		if len(normal) < 14 {
			continue // a code has no 13 zeros ahead of another digit
		}
		for _, size := range []int{14, 13, 12, 8} {
			if 14-size <= zeros {
				code := normal[14-size:]
				wantText(t, "Short", code, normal[take:], api.OK)(gtin.Short(code))
			}
		}
	}
}

func TestP2_5PackAndUnit(t *testing.T) {
	r := rand.New(rand.NewSource(5))
	for _, size := range []int{8, 12, 13, 14} {
		for range 50 {
			code := randomCode(r, size)
			middle := (strings.Repeat("0", 14-size) + code)[1:13]
			for level := 1; level <= 9; level++ {
				body := string([]byte{byte('0' + level)}) + middle
				wantText(t, "Pack", code, body+slowDigit(body), api.OK)(gtin.Pack(code, level))
			}
			short, _ := gtin.Short("0" + middle + slowDigit("0"+middle))
			wantText(t, "Unit", code, short, api.OK)(gtin.Unit(code))
		}
	}
	for _, level := range []int{0, 10, -1, 11, 256 + 1, math.MinInt, math.MaxInt} {
		wantText(t, "Pack", "036000291452", "", api.ErrArg)(gtin.Pack("036000291452", level))
	}
}

func TestP2_6OneWrongDigitIsTold(t *testing.T) {
	r := rand.New(rand.NewSource(6))
	for _, size := range codeSizes {
		for range 30 {
			code := randomCode(r, size)
			for at := range size {
				for d := byte('0'); d <= '9'; d++ {
					if d != code[at] {
						wantCheck(t, replaced(code, at, d), api.ErrCheck, size-1)
					}
				}
			}
		}
	}
}

func TestP2_6NeighboursThatChangePlaces(t *testing.T) {
	r := rand.New(rand.NewSource(7))
	for _, size := range codeSizes {
		for range 200 {
			code := randomCode(r, size)
			for at := range size - 1 {
				a, b := code[at], code[at+1]
				other := replaced(replaced(code, at, b), at+1, a)
				if a == b || a+5 == b || b+5 == a {
					wantCheck(t, other, api.OK, 0)
				} else {
					wantCheck(t, other, api.ErrCheck, size-1)
				}
			}
		}
	}
}

func TestP2_6PackAndUnitThereAndBack(t *testing.T) {
	r := rand.New(rand.NewSource(8))
	for _, size := range []int{8, 12, 13, 14} {
		for range 50 {
			code := randomCode(r, size)
			normal, _ := gtin.Normal(code)
			short, _ := gtin.Short(code)
			unit, _ := gtin.Unit(code)
			for level := 1; level <= 9; level++ {
				pack, _ := gtin.Pack(code, level)
				if normal[0] == '0' {
					wantText(t, "Unit", pack, short, api.OK)(gtin.Unit(pack))
				}
				wantText(t, "Pack", unit, pack, api.OK)(gtin.Pack(unit, level))
			}
		}
	}
}
