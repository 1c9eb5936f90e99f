package gtin_test

import (
	"fmt"
	"math/rand"
	"strconv"
	"strings"
	"testing"

	"larder/api"
	"larder/gtin"
)

// row is a line of the table of section 2.2, and whether its Ai is plain.
type row struct {
	ai          string
	digits      bool
	least, most int
	what        string
	plain       bool
}

// table has the rows of section 2.2, one an Ai.
func table() []row {
	var l []row
	lay := func(value, what string, plain bool, ais ...string) {
		x := row{what: what, plain: plain, digits: value[0] == 'n', least: 1}
		x.most, _ = strconv.Atoi(strings.TrimPrefix(value[1:], ".."))
		if value[1] != '.' {
			x.least = x.most
		}
		for _, ai := range ais {
			x.ai = ai
			l = append(l, x)
		}
	}
	lay("n18", "code", true, "00")
	lay("n14", "code", true, "01", "02")
	lay("x..20", "", false, "10", "21")
	lay("n6", "day", true, "11", "13", "15", "17")
	lay("n2", "", true, "20")
	lay("n..8", "", false, "30", "37")
	lay("n6", "amount", true, "3100", "3101", "3102", "3103", "3104", "3105")
	lay("n..15", "amount", false, "3920", "3921", "3922", "3923")
	lay("x..30", "", false, "400")
	lay("n13", "code", true, "410", "411", "414")
	lay("x..20", "", false, "420")
	lay("n6", "", false, "8005")
	lay("x..25", "", false, "8020")
	lay("x..30", "", false, "90")
	lay("x..90", "", false, "91", "92", "93", "94", "95", "96", "97", "98", "99")
	return l
}

const characters = "ABCDEFGHIJKLMNOPQRSTUVWXYZabcdefghijklmnopqrstuvwxyz0123456789!\"%&'()*+,-./:;<=>?_"

// slowDay says whether six digits are a day, by a list of all months.
func slowDay(value string) bool {
	y, _ := strconv.Atoi(value[:2])
	m, _ := strconv.Atoi(value[2:4])
	d, _ := strconv.Atoi(value[4:])
	days := []int{-1, 31, 28, 31, 30, 31, 30, 31, 31, 30, 31, 30, 31}
	if y%4 == 0 {
		days[2] = 29
	}
	return m < len(days) && d <= days[m]
}

// value answers a right Value of the row, of so many bytes.
func (x row) value(r *rand.Rand, size int) string {
	switch {
	case x.what == "code":
		return randomCode(r, size)
	case x.what == "day":
		for {
			if v := fmt.Sprintf("%02d%02d%02d", r.Intn(100), 1+r.Intn(12), r.Intn(32)); slowDay(v) {
				return v
			}
		}
	case x.digits:
		return randomDigits(r, size)
	}
	b := make([]byte, size)
	for i := range b {
		b[i] = characters[r.Intn(len(characters))]
	}
	return string(b)
}

// mate answers the elements that must stand beside one with this Ai.
func mate(ai string) []api.Element {
	switch ai {
	case "02":
		return []api.Element{{Ai: "37", Value: "1"}}
	case "37":
		return []api.Element{{Ai: "02", Value: "00000000000000"}}
	}
	return nil
}

func wantPrint(t *testing.T, l []api.Element, want string, wantE api.Errno, wantAt int) {
	t.Helper()
	if s, e, at := gtin.Print(l); s != want || e != wantE || at != wantAt {
		t.Errorf("Print(%.80v): %q, %d, %d; want %q, %d, %d", l, s, e, at, want, wantE, wantAt)
	}
	if wantE != api.OK {
		if s, e, at := gtin.PrintShown(l); s != "" || e != wantE || at != wantAt {
			t.Errorf("PrintShown(%.80v): %q, %d, %d; want %d, %d", l, s, e, at, wantE, wantAt)
		}
	}
}

func wantParse(t *testing.T, text string, want []api.Element) {
	t.Helper()
	l, e, at := gtin.Parse(text)
	if e != api.OK || at != 0 || !same(l, want) {
		t.Errorf("Parse(%q): %v, %d, %d; want %v", text, l, e, at, want)
	}
}

func wantFault(t *testing.T, text string, want api.Errno, wantAt int) {
	t.Helper()
	if l, e, at := gtin.Parse(text); len(l) != 0 || e != want || at != wantAt {
		t.Errorf("Parse(%.60q): %v, %d, %d; want %d, %d", text, l, e, at, want, wantAt)
	}
}

func same(a, b []api.Element) bool {
	if len(a) != len(b) {
		return false
	}
	for i := range a {
		if a[i] != b[i] {
			return false
		}
	}
	return true
}

// wantRefused holds Parse, with what is behind a Value of row x, and Print to a fault of that Value.
func wantRefused(t *testing.T, x row, value string, e api.Errno, place int) {
	t.Helper()
	wantFault(t, x.ai+value, e, len(x.ai)+place)
	wantPrint(t, []api.Element{{Ai: x.ai, Value: value}}, "", e, 0)
}

func TestP2_7And2_8TakeEveryAiWithItsValues(t *testing.T) {
	r := rand.New(rand.NewSource(10))
	for _, x := range table() {
		for size := x.least; size <= x.most; size++ {
			value := x.value(r, size)
			l := append([]api.Element{{Ai: x.ai, Value: value}}, mate(x.ai)...)
			text := x.ai + value
			for _, m := range mate(x.ai) {
				if !x.plain {
					text += "\x1d"
				}
				text += m.Ai + m.Value
			}
			wantParse(t, text, l)
			wantPrint(t, l, text, api.OK, 0)
		}
	}
}

func TestP2_7And2_8RefuseTooFewBytesAndTooMany(t *testing.T) {
	r := rand.New(rand.NewSource(11))
	for _, x := range table() {
		for size := range x.least {
			wantRefused(t, x, x.value(r, x.most)[:size], api.ErrShort, size)
		}
		long := x.value(r, x.most) + "1"
		wantPrint(t, []api.Element{{Ai: x.ai, Value: long}}, "", api.ErrLarge, 0)
		wantPrint(t, []api.Element{{Ai: x.ai, Value: long + strings.Repeat("1", 100000)}}, "", api.ErrLarge, 0)
		if !x.plain {
			wantFault(t, x.ai+long, api.ErrLarge, len(x.ai)+x.most)
			wantFault(t, x.ai+long+"\x1d20", api.ErrLarge, len(x.ai)+x.most)
		}
	}
}

func TestP2_7And2_8RefuseWrongBytes(t *testing.T) {
	r := rand.New(rand.NewSource(12))
	for _, x := range table() {
		e, right := api.ErrChar, characters
		if x.digits {
			e, right = api.ErrDigit, "0123456789"
		}
		for at := range x.most {
			for c := range 256 {
				if strings.IndexByte(right, byte(c)) >= 0 {
					continue
				}
				value := replaced(x.value(r, x.most), at, byte(c))
				wantPrint(t, []api.Element{{Ai: x.ai, Value: value}}, "", e, 0)
				if c != 29 || x.plain {
					wantFault(t, x.ai+value, e, len(x.ai)+at)
				}
			}
		}
	}
}

func TestP2_7And2_8TakeEveryCharacter(t *testing.T) {
	for c := range 256 {
		text := string([]byte{byte(c)})
		if strings.Contains(characters, text) {
			wantParse(t, "10"+text, []api.Element{{Ai: "10", Value: text}})
		} else if c != 29 {
			wantFault(t, "10"+text, api.ErrChar, 2)
		}
	}
}

func TestP2_7And2_8RefuseWrongSums(t *testing.T) {
	r := rand.New(rand.NewSource(13))
	for _, x := range table() {
		if x.what != "code" {
			continue
		}
		for at := range x.most {
			value := x.value(r, x.most)
			value = replaced(value, at, '0'+(value[at]-'0'+1)%10)
			wantRefused(t, x, value, api.ErrCheck, x.most-1)
		}
	}
}

func TestP2_7And2_8KnowEveryDay(t *testing.T) {
	for n := range 1000000 {
		value := fmt.Sprintf("%06d", n)
		_, e, at := gtin.Parse("15" + value)
		if slowDay(value) && (e != api.OK || at != 0) || !slowDay(value) && (e != api.ErrDay || at != 2) {
			t.Fatalf("Parse(15%s): %d, %d", value, e, at)
		}
	}
	for _, x := range table() {
		if x.what != "day" {
			continue
		}
		for _, value := range []string{"000001", "001301", "000132", "000431", "010229", "000230", "999999"} {
			wantRefused(t, x, value, api.ErrDay, 0)
		}
		for _, value := range []string{"000100", "000229", "960229", "991231", "000430"} {
			wantParse(t, x.ai+value, []api.Element{{Ai: x.ai, Value: value}})
		}
	}
}

func TestP2_7And2_8KnowNoOtherAi(t *testing.T) {
	rows := table()
	known := func(text string, begins func(text, ai string) bool) bool {
		for _, x := range rows {
			if begins(text, x.ai) {
				return true
			}
		}
		return false
	}
	for n := range 10000 {
		for digits := 1; digits <= 4; digits++ {
			ai := fmt.Sprintf("%04d", n)[4-digits:]
			is := known(ai, func(text, ai string) bool { return text == ai })
			if !is {
				wantPrint(t, []api.Element{{Ai: ai, Value: "1"}}, "", api.ErrAi, 0)
			}
			switch {
			case known(ai, strings.HasPrefix):
			case known(ai, func(text, ai string) bool { return strings.HasPrefix(ai, text) }):
				wantFault(t, ai, api.ErrShort, len(ai))
				wantFault(t, "2011"+ai, api.ErrShort, 4+len(ai))
				wantFault(t, "2011"+ai+"x", api.ErrAi, 4)
			default:
				wantFault(t, ai, api.ErrAi, 0)
				wantFault(t, "2011"+ai, api.ErrAi, 4)
			}
		}
	}
	for _, ai := range []string{"", "0", "01 ", " 01", "x", "\x1d", "1\x00", "３0", strings.Repeat("0", 100000)} {
		wantPrint(t, []api.Element{{Ai: ai, Value: "1"}}, "", api.ErrAi, 0)
	}
}
