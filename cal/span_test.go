package cal_test

import (
	"fmt"
	"math/rand"
	"regexp"
	"strconv"
	"strings"
	"testing"

	"larder/api"
	"larder/cal"
)

var spanText = regexp.MustCompile(`^P(?:(\d{1,9})W|(?:(\d{1,9})Y)?(?:(\d{1,9})M)?(?:(\d{1,9})D)?(?:T(?:(\d{1,9})H)?(?:(\d{1,9})M)?(?:(\d{1,9})S)?)?)$`)

// slowSpan reads a span with the library's patterns; false, if it is none.
func slowSpan(text string) (api.Span, bool) {
	m := spanText.FindStringSubmatch(text)
	if m == nil || strings.HasSuffix(text, "P") || strings.HasSuffix(text, "T") {
		return api.Span{}, false
	}
	n := make([]int, len(m))
	for i := range n {
		n[i], _ = strconv.Atoi(m[i])
	}
	return api.Span{Weeks: n[1], Years: n[2], Months: n[3], Days: n[4], Hours: n[5], Minutes: n[6], Seconds: n[7]}, true
}

// slowBegins says whether a text is a span's beginning: one of a few ends makes it whole.
func slowBegins(text string) bool {
	for _, end := range []string{"", "P1D", "1D", "1H", "W", "Y", "M", "D", "H", "S"} {
		if _, ok := slowSpan(text + end); ok {
			return true
		}
	}
	return false
}

func wantSpan(t *testing.T, text string, want api.Span, wantE api.Errno, wantAt int) {
	t.Helper()
	if s, e, at := cal.ParseSpan(text); s != want || e != wantE || at != wantAt {
		t.Errorf("ParseSpan(%q): %v, %d, %d; want %v, %d, %d", text, s, e, at, want, wantE, wantAt)
	}
}

func wantNoSpan(t *testing.T, text string, wantE api.Errno, wantAt int) {
	t.Helper()
	wantSpan(t, text, api.Span{}, wantE, wantAt)
}

func wantSlowSpan(t *testing.T, text string) {
	t.Helper()
	if len(text) > 64 {
		wantNoSpan(t, text, api.ErrLong, 0)
		return
	}
	if s, ok := slowSpan(text); ok {
		wantSpan(t, text, s, api.OK, 0)
		return
	}
	n := len(text)
	for !slowBegins(text[:n]) {
		n--
	}
	wantNoSpan(t, text, api.ErrSpan, n)
}

func wantSpanText(t *testing.T, s api.Span, want string, wantE api.Errno) {
	t.Helper()
	if text, e := cal.PrintSpan(s); text != want || e != wantE {
		t.Errorf("PrintSpan(%v): %q, %d; want %q, %d", s, text, e, want, wantE)
	}
}

// everyMix goes over texts with each number there or not, T too, and what stands behind.
func everyMix(number string) []string {
	l := []string{"P"}
	for _, x := range []string{number + "Y", number + "M", number + "W", number + "D", "T", number + "H", number + "M", number + "S"} {
		for _, text := range l {
			l = append(l, text+x)
		}
	}
	return l
}

func TestP3_7EveryMixOfNumbers(t *testing.T) {
	for _, number := range []string{"1", "0", "007", "999999999", "0000000001", ""} {
		for _, text := range everyMix(number) {
			wantSlowSpan(t, text)
		}
	}
}

// rightSpans are spans' texts of many shapes.
func rightSpans() []string {
	return []string{"P1Y2M3DT4H5M6S", "P3W", "P1D", "PT1S", "PT1M", "P1M", "P1YT1S", "P0W", "PT0S", "P123456789Y", "P1Y2DT3H4S", "P000000007D"}
}

func TestP3_7CutTextsAndLongerOnes(t *testing.T) {
	for _, text := range rightSpans() {
		for n := range len(text) + 1 {
			wantSlowSpan(t, text[:n])
			for c := range 256 {
				one := string([]byte{byte(c)})
				wantSlowSpan(t, text[:n]+one+text[n:])
				if n < len(text) {
					wantSlowSpan(t, text[:n]+one+text[n+1:])
				}
			}
			for m := n + 1; m <= len(text); m++ {
				wantSlowSpan(t, text[:n]+text[m:])
			}
		}
	}
}

func TestP3_7AnyText(t *testing.T) {
	r := rand.New(rand.NewSource(7))
	for range 80000 {
		b := []byte{'P'}
		for range r.Intn(9) {
			b = append(b, "0123456789YMWDTHMSPx"[r.Intn(20)])
		}
		wantSlowSpan(t, string(b))
	}
}

func TestP3_7NumbersOfOneToNineDigits(t *testing.T) {
	for n := 1; n <= 9; n++ {
		digits := "123456789"[:n]
		want, _ := strconv.Atoi(digits)
		wantSpan(t, "P"+digits+"Y", api.Span{Years: want}, api.OK, 0)
		wantSpan(t, "P"+digits+"M", api.Span{Months: want}, api.OK, 0)
		wantSpan(t, "P"+digits+"W", api.Span{Weeks: want}, api.OK, 0)
		wantSpan(t, "P"+digits+"D", api.Span{Days: want}, api.OK, 0)
		wantSpan(t, "PT"+digits+"H", api.Span{Hours: want}, api.OK, 0)
		wantSpan(t, "PT"+digits+"M", api.Span{Minutes: want}, api.OK, 0)
		wantSpan(t, "PT"+digits+"S", api.Span{Seconds: want}, api.OK, 0)
		wantNoSpan(t, "P"+digits, api.ErrSpan, 1+n)
		wantNoSpan(t, "PT"+digits, api.ErrSpan, 2+n)
	}
	for _, mark := range []string{"Y", "M", "W", "D"} {
		wantNoSpan(t, "P0000000001"+mark, api.ErrSpan, 10)
		wantNoSpan(t, "PT0000000001"+mark, api.ErrSpan, 11)
	}
	wantSpan(t, "P999999999Y", api.Span{Years: api.MaxPart}, api.OK, 0)
	wantSpan(t, "P000000000D", api.Span{}, api.OK, 0)
}

func TestP3_7FaultsAndPlaces(t *testing.T) {
	for text, at := range map[string]int{
		"": 0, "1": 0, "p1D": 0, " P1D": 0, "T1S": 0, "P": 1, "PY": 1, "P-1D": 1, "P+1D": 1, "PP1D": 1, "P1": 2, "P1H": 2, "P1S": 2, "P1d": 2, "P1T": 2, "P1.5D": 2, "P1DX": 3, "P1D1": 3, "P1D1M": 3, "P1D1W": 3,
		"P1Y1": 4, "P1Y1Y": 4, "P1M1M": 4, "P1M1Y": 4, "P1M1W": 4, "P1WT": 3, "P1WT1S": 3, "P1W1W": 3, "P1W1Y": 3, "P1Y1W": 4,
		"PT": 2, "PT1": 3, "PTT1S": 2, "PT1Y": 3, "PT1D": 3, "PT1W": 3, "PT1S1": 4, "PT1S1S": 4, "PT1S1M": 4, "PT1M1H": 5, "PT1H1H": 5, "PT1HT1S": 4, "PT1ST": 4, "P1DT": 4, "P1DT1": 5, "P1YT1Y": 5, "P1DT1D": 5, "P1DTT": 4,
		"PT1S ": 4, "P1D\x00": 3, "P１D": 1,
	} {
		wantNoSpan(t, text, api.ErrSpan, at)
	}
}

func TestP3_7LongTexts(t *testing.T) {
	full := "P" + "999999999Y999999999M999999999D" + "T" + "999999999H999999999M999999999S"
	all := api.Span{Years: api.MaxPart, Months: api.MaxPart, Days: api.MaxPart, Hours: api.MaxPart, Minutes: api.MaxPart, Seconds: api.MaxPart}
	wantSpan(t, full, all, api.OK, 0)
	wantNoSpan(t, full+strings.Repeat(" ", api.MaxStamp-len(full)), api.ErrSpan, len(full))
	wantNoSpan(t, full+strings.Repeat(" ", api.MaxStamp+1-len(full)), api.ErrLong, 0)
	wantNoSpan(t, "P"+strings.Repeat("1", api.MaxStamp-1), api.ErrSpan, 10)
	wantNoSpan(t, "P"+strings.Repeat("1", api.MaxStamp), api.ErrLong, 0)
	wantNoSpan(t, strings.Repeat("x", 1<<20), api.ErrLong, 0)
}

// numbers answers the places of a span's numbers.
func numbers(s *api.Span) []*int {
	return []*int{&s.Years, &s.Months, &s.Weeks, &s.Days, &s.Hours, &s.Minutes, &s.Seconds}
}

// slowSpanText writes down all that is not 0.
func slowSpanText(s api.Span) string {
	text := "P"
	for i, n := range numbers(&s) {
		if i == 4 {
			text += "T"
		}
		if *n > 0 {
			text += fmt.Sprint(*n, "YMWDHMS"[i:i+1])
		}
	}
	if text == "PT" {
		return "PT0S"
	}
	return strings.TrimSuffix(text, "T")
}

func TestP3_8EveryMixOfNumbers(t *testing.T) {
	values := []int{0, 1, api.MaxPart, 10}
	for mix := range 4 * 4 * 4 * 4 * 4 * 4 {
		var s api.Span
		left := mix
		for i, n := range numbers(&s) {
			if i != 2 {
				*n = values[left%4]
				left /= 4
			}
		}
		wantSpanText(t, s, slowSpanText(s), api.OK)
		wantSpan(t, slowSpanText(s), s, api.OK, 0)
	}
	for _, n := range []int{1, 52, api.MaxPart} {
		wantSpanText(t, api.Span{Weeks: n}, fmt.Sprintf("P%dW", n), api.OK)
		wantSpan(t, fmt.Sprintf("P%dW", n), api.Span{Weeks: n}, api.OK, 0)
	}
	wantSpanText(t, api.Span{Months: 1}, "P1M", api.OK)
	wantSpanText(t, api.Span{Minutes: 1}, "PT1M", api.OK)
	wantSpanText(t, api.Span{Days: 10, Seconds: 1}, "P10DT1S", api.OK)
	wantSpanText(t, api.Span{}, "PT0S", api.OK)
}

func TestP3_8WhatIsNotPrinted(t *testing.T) {
	for i := range 7 {
		for _, n := range append([]int{-1, -api.MaxPart, api.MaxPart + 1}, extremes...) {
			var s api.Span
			*numbers(&s)[i] = n
			wantSpanText(t, s, "", api.ErrSpan)
			if i != 2 {
				s.Weeks = 1
				wantSpanText(t, s, "", api.ErrSpan)
			}
		}
		if i != 2 {
			s := api.Span{Weeks: 1}
			*numbers(&s)[i] = 1
			wantSpanText(t, s, "", api.ErrSpan)
		}
	}
}

func wantSum(t *testing.T, second int, s api.Span, back bool, want int, wantE api.Errno) {
	t.Helper()
	if n, e := cal.AddSpan(second, s, back); n != want || e != wantE {
		t.Errorf("AddSpan(%d, %v, %v): %d, %d; want %d, %d", second, s, back, n, e, want, wantE)
	}
}

// slowSum adds as P3.9 says: month by month, then second by second as a number.
func slowSum(second int, s api.Span, back bool) (int, api.Errno) {
	sign := 1
	if back {
		sign = -1
	}
	d, _ := cal.Of(second / 86400)
	for range 12*s.Years + s.Months {
		d.Month += sign
		if d.Month < 1 || d.Month > 12 {
			d.Year, d.Month = d.Year+sign, d.Month-12*sign
		}
	}
	if d.Year < 0 || d.Year > 9999 {
		return 0, api.ErrRange
	}
	d.Day = min(d.Day, slowLast(d.Year, d.Month))
	n, _ := cal.Days(d)
	sum := n*86400 + second%86400 + sign*((7*s.Weeks+s.Days)*86400+s.Hours*3600+s.Minutes*60+s.Seconds)
	if sum < 0 || sum > api.MaxSecond {
		return 0, api.ErrRange
	}
	return sum, api.OK
}

func TestP3_9AnySum(t *testing.T) {
	r := rand.New(rand.NewSource(9))
	most := []int{3, 40, 30, 800, 100, 5000, 100000}
	for i := range 100000 {
		var s api.Span
		for j, n := range numbers(&s) {
			if r.Intn(2) == 0 && (j == 2) == (i%4 == 0) {
				*n = r.Intn(most[j])
			}
		}
		second := r.Intn(api.MaxSecond + 1)
		switch i % 10 {
		case 1:
			second = r.Intn(100000000)
		case 2:
			second = api.MaxSecond - r.Intn(100000000)
		}
		for _, back := range []bool{false, true} {
			want, e := slowSum(second, s, back)
			wantSum(t, second, s, back, want, e)
		}
	}
}

func instant(text string) int {
	n, e, _ := cal.ParseInstant(text)
	if e != api.OK {
		panic(text)
	}
	return n
}

func TestP3_9MonthsThatHaveNotTheDay(t *testing.T) {
	for _, x := range []struct {
		from   string
		months int
		back   bool
		to     string
	}{
		{"2004-01-31T12:00:00Z", 1, false, "2004-02-29T12:00:00Z"}, {"2003-01-31T23:59:59Z", 1, false, "2003-02-28T23:59:59Z"}, {"2003-01-28T00Z", 1, false, "2003-02-28T00Z"},
		{"2004-01-29T00Z", 1, false, "2004-02-29T00Z"}, {"2004-03-31T00Z", 1, false, "2004-04-30T00Z"}, {"2004-10-31T00Z", 13, false, "2005-11-30T00Z"}, {"2004-02-29T00Z", 48, false, "2008-02-29T00Z"},
		{"2096-02-29T00Z", 48, false, "2100-02-28T00Z"}, {"2004-03-31T00Z", 1, true, "2004-02-29T00Z"}, {"2004-03-30T00Z", 13, true, "2003-02-28T00Z"}, {"2004-12-31T00Z", 6, true, "2004-06-30T00Z"},
		{"2004-12-31T00Z", 12, false, "2005-12-31T00Z"}, {"2004-12-31T00Z", 1, false, "2005-01-31T00Z"}, {"2004-01-31T00Z", 1, true, "2003-12-31T00Z"},
	} {
		wantSum(t, instant(x.from), api.Span{Months: x.months}, x.back, instant(x.to), api.OK)
		wantSum(t, instant(x.from), api.Span{Years: x.months / 12, Months: x.months % 12}, x.back, instant(x.to), api.OK)
	}
}

func TestP3_9MonthsComeFirst(t *testing.T) {
	wantSum(t, instant("2004-01-31T00Z"), api.Span{Months: 1, Days: 1}, false, instant("2004-03-01T00Z"), api.OK)
	wantSum(t, instant("2004-03-31T00Z"), api.Span{Months: 1, Days: 1}, true, instant("2004-02-28T00Z"), api.OK)
	wantSum(t, instant("2003-01-31T12Z"), api.Span{Months: 1, Hours: 12}, false, instant("2003-03-01T00Z"), api.OK)
	wantSum(t, instant("9999-12-01T00Z"), api.Span{Months: 1}, false, 0, api.ErrRange)
	wantSum(t, instant("0000-01-31T00Z"), api.Span{Months: 1}, true, 0, api.ErrRange)
}

func TestP3_9Ends(t *testing.T) {
	last := api.MaxSecond
	wantSum(t, 0, api.Span{}, false, 0, api.OK)
	wantSum(t, 0, api.Span{}, true, 0, api.OK)
	wantSum(t, last, api.Span{}, false, last, api.OK)
	wantSum(t, last, api.Span{}, true, last, api.OK)
	wantSum(t, last, api.Span{Seconds: 1}, false, 0, api.ErrRange)
	wantSum(t, last-1, api.Span{Seconds: 1}, false, last, api.OK)
	wantSum(t, 0, api.Span{Seconds: 1}, true, 0, api.ErrRange)
	wantSum(t, 1, api.Span{Seconds: 1}, true, 0, api.OK)
	wantSum(t, 0, api.Span{Years: 9999, Months: 11}, false, instant("9999-12-01T00Z"), api.OK)
	wantSum(t, 0, api.Span{Years: 9999, Months: 12}, false, 0, api.ErrRange)
	wantSum(t, 0, api.Span{Years: 10000}, false, 0, api.ErrRange)
	wantSum(t, last, api.Span{Years: 9999, Months: 11}, true, instant("0000-01-31T23:59:59Z"), api.OK)
	wantSum(t, last, api.Span{Months: 119999}, true, instant("0000-01-31T23:59:59Z"), api.OK)
	wantSum(t, last, api.Span{Months: 120000}, true, 0, api.ErrRange)
	wantSum(t, 0, api.Span{Days: api.MaxDay}, false, last+1-86400, api.OK)
	wantSum(t, 0, api.Span{Days: api.MaxDay + 1}, false, 0, api.ErrRange)
	wantSum(t, 0, api.Span{Weeks: 521774}, false, 521774*7*86400, api.OK)
	wantSum(t, 0, api.Span{Weeks: 521775}, false, 0, api.ErrRange)
	wantSum(t, 0, api.Span{Seconds: api.MaxPart}, false, api.MaxPart, api.OK)
	wantSum(t, 0, api.Span{Minutes: api.MaxPart}, false, 60*api.MaxPart, api.OK)
	wantSum(t, 0, api.Span{Hours: api.MaxPart}, false, 0, api.ErrRange)
	for i := range 7 {
		var s api.Span
		*numbers(&s)[i] = api.MaxPart
		if i < 5 {
			wantSum(t, last/2, s, false, 0, api.ErrRange)
			wantSum(t, last/2, s, true, 0, api.ErrRange)
		}
	}
	all := api.Span{Years: api.MaxPart, Months: api.MaxPart, Days: api.MaxPart, Hours: api.MaxPart, Minutes: api.MaxPart, Seconds: api.MaxPart}
	wantSum(t, 0, all, false, 0, api.ErrRange)
	wantSum(t, last, all, true, 0, api.ErrRange)
}

func TestP3_9WrongArguments(t *testing.T) {
	wrong := []api.Span{{Weeks: 1, Days: 1}, {Weeks: 1, Years: 1}, {Seconds: -1}, {Years: -1}, {Hours: api.MaxPart + 1}}
	for _, n := range extremes {
		wrong = append(wrong, api.Span{Years: n}, api.Span{Days: n}, api.Span{Seconds: n}, api.Span{Weeks: n}, api.Span{Months: n, Seconds: n})
	}
	for _, back := range []bool{false, true} {
		for _, second := range append([]int{-1, api.MaxSecond + 1}, extremes...) {
			wantSum(t, second, api.Span{}, back, 0, api.ErrRange)
			wantSum(t, second, api.Span{Days: 1}, back, 0, api.ErrRange)
			for _, s := range wrong {
				wantSum(t, second, s, back, 0, api.ErrRange)
			}
		}
		for _, s := range wrong {
			wantSum(t, 0, s, back, 0, api.ErrSpan)
			wantSum(t, api.MaxSecond, s, back, 0, api.ErrSpan)
		}
	}
}
