package gtin

import (
	"strings"

	"larder/api"
)

// kind is what the Values of some Ais have in common.
type kind int

const (
	parcel    kind = iota // a code of 18 digits
	goods                 // a code of 14 digits
	party                 // a code of 13 digits
	day                   // YYMMDD
	variant               // two digits
	count                 // up to 8 digits
	measure               // an amount of six digits
	price                 // an amount of up to 15 digits
	unitPrice             // six digits, ended for all that
	text20                // up to 20 characters
	text25
	text30
	text90
)

// known is an Ai and the kind of its Values.
type known struct {
	ai   string
	kind kind
}

// knowns has all Ais; none of them is the beginning of another.
var knowns = [39]known{
	{"00", parcel}, {"01", goods}, {"02", goods},
	{"10", text20}, {"21", text20},
	{"11", day}, {"13", day}, {"15", day}, {"17", day},
	{"20", variant},
	{"30", count}, {"37", count},
	{"3100", measure}, {"3101", measure}, {"3102", measure}, {"3103", measure}, {"3104", measure}, {"3105", measure},
	{"3920", price}, {"3921", price}, {"3922", price}, {"3923", price},
	{"400", text30},
	{"410", party}, {"411", party}, {"414", party},
	{"420", text20},
	{"8005", unitPrice},
	{"8020", text25},
	{"90", text30},
	{"91", text90}, {"92", text90}, {"93", text90}, {"94", text90}, {"95", text90}, {"96", text90}, {"97", text90}, {"98", text90}, {"99", text90},
}

// kindOf answers the kind of an Ai, and whether it is one.
func kindOf(ai string) (kind, bool) {
	for _, k := range knowns {
		if k.ai == ai {
			return k.kind, true
		}
	}
	return 0, false
}

// ahead answers the Ai with which text begins; else ErrShort, if text is no more than an Ai's beginning, or ErrAi.
func ahead(text string) (known, api.Errno) {
	e := api.ErrAi
	for _, k := range knowns {
		if strings.HasPrefix(text, k.ai) {
			return k, api.OK
		}
		if strings.HasPrefix(k.ai, text) {
			e = api.ErrShort
		}
	}
	return known{}, e
}

// form is what a Value of a kind must be.
type form struct {
	least, most int
	plain       bool // nothing stands behind it
	ofByte      func(c byte) api.Errno
	ofWhole     func(value string) (api.Errno, int) // of a Value that is right so far; the place is the fault's
}

func formOf(k kind) form {
	switch k {
	case parcel:
		return fixed(18, codeFault)
	case goods:
		return fixed(14, codeFault)
	case party:
		return fixed(13, codeFault)
	case day:
		return fixed(6, dayFault)
	case variant:
		return fixed(2, noFault)
	case measure:
		return fixed(6, noFault)
	case count:
		return form{1, 8, false, digitFault, noFault}
	case price:
		return form{1, 15, false, digitFault, noFault}
	case unitPrice:
		return form{6, 6, false, digitFault, noFault}
	case text20:
		return textual(20)
	case text25:
		return textual(25)
	case text30:
		return textual(30)
	default:
		return textual(90)
	}
}

func fixed(digits int, ofWhole func(value string) (api.Errno, int)) form {
	return form{digits, digits, true, digitFault, ofWhole}
}

func textual(most int) form { return form{1, most, false, charFault, noFault} }

// fault says why value is not as the form asks, OK if it is.
func (f form) fault(value string) api.Errno {
	if len(value) < f.least {
		return api.ErrShort
	}
	if len(value) > f.most {
		return api.ErrLarge
	}
	for i := range len(value) {
		if e := f.ofByte(value[i]); e != api.OK {
			return e
		}
	}
	e, _ := f.ofWhole(value)
	return e
}

func digitFault(c byte) api.Errno {
	if !isDigit(c) {
		return api.ErrDigit
	}
	return api.OK
}

func charFault(c byte) api.Errno {
	letter := 'A' <= c && c <= 'Z' || 'a' <= c && c <= 'z'
	if !letter && !isDigit(c) && strings.IndexByte("!\"%&'()*+,-./:;<=>?_", c) < 0 {
		return api.ErrChar
	}
	return api.OK
}

func noFault(value string) (api.Errno, int) { return api.OK, 0 }

func codeFault(value string) (api.Errno, int) {
	if !sumHolds(value) {
		return api.ErrCheck, len(value) - 1
	}
	return api.OK, 0
}

func dayFault(value string) (api.Errno, int) {
	month := number(value[2:4])
	if month < 1 || month > 12 || number(value[4:]) > lastDay(number(value[:2]), month) {
		return api.ErrDay, 0
	}
	return api.OK, 0
}

// lastDay takes every fourth year of a century for a leap year, the first too: which century it is, a label does not say.
func lastDay(year, month int) int {
	switch month {
	case 2:
		if year%4 == 0 {
			return 29
		}
		return 28
	case 4, 6, 9, 11:
		return 30
	default:
		return 31
	}
}

// number answers the number that digits are; there are too few of them to run over.
func number(digits string) int {
	n := 0
	for i := range len(digits) {
		n = n*10 + int(digits[i]-'0')
	}
	return n
}
