package cal

import (
	"strconv"
	"strings"
)

// A part is a number in a text that has a shape: how many digits it has, and what is asked whether it may be. Parts are asked in their order, so that each may lean on what those ahead of it were told.
type part struct {
	digits int
	may    func(n int) bool
}

func isDigit(c byte) bool { return '0' <= c && c <= '9' }

// reach answers how many of the text's first bytes stand as the shape begins; d in a shape is a digit.
func reach(text, shape string) int {
	n := 0
	for n < len(text) && n < len(shape) {
		if shape[n] == 'd' && !isDigit(text[n]) || shape[n] != 'd' && shape[n] != text[n] {
			break
		}
		n++
	}
	return n
}

// fit answers the place in the list of the shape that the text has; or -1, and the text's first byte that fits none.
func fit(text string, shapes ...string) (which, place int) {
	for i, shape := range shapes {
		n := reach(text, shape)
		if n == len(text) && n == len(shape) {
			return i, 0
		}
		place = max(place, n)
	}
	return -1, place
}

// refused asks the parts of a text whose shape is known, and answers the place of the first one that may not be; or -1. Parts that the text ends ahead of are not asked.
func refused(text string, parts ...part) int {
	at := 0
	for _, p := range parts {
		for at < len(text) && !isDigit(text[at]) {
			at++
		}
		if at == len(text) {
			break
		}
		if n, _ := strconv.Atoi(text[at : at+p.digits]); !p.may(n) {
			return at
		}
		at += p.digits
	}
	return -1
}

// padded writes n with zeros ahead, so that it has so many digits.
func padded(n, digits int) string {
	text := strconv.Itoa(n)
	return strings.Repeat("0", digits-len(text)) + text
}
