package cal_test

import (
	"fmt"
	"math/rand"
	"strings"
	"testing"
	"time"

	"larder/api"
	"larder/cal"
)

// dateShapes are those of section 3.2, by their forms.
var dateShapes = []string{"dddd-dd-dd", "dddddddd", "dddd-ddd", "ddddddd", "dddd-Wdd-d", "ddddWddd"}

// dateLayouts write year and parts in the shapes.
var dateLayouts = []string{"%04d-%02d-%02d", "%04d%02d%02d", "%04d-%03d", "%04d%03d", "%04d-W%02d-%d", "%04dW%02d%d"}

// shapeOf writes d for each digit; a letter d is none.
func shapeOf(text string) string {
	b := []byte(text)
	for i, c := range b {
		if c == 'd' {
			b[i] = '?'
		}
		if strings.IndexByte("0123456789", c) >= 0 {
			b[i] = 'd'
		}
	}
	return string(b)
}

// slowShape answers which shape a text has; or -1, and the length of its longest beginning that begins one.
func slowShape(text string, shapes []string) (int, int) {
	for i, s := range shapes {
		if shapeOf(text) == s {
			return i, 0
		}
	}
	for n := len(text); ; n-- {
		for _, s := range shapes {
			if strings.HasPrefix(s, shapeOf(text[:n])) {
				return -1, n
			}
		}
	}
}

func dateIn(t time.Time) api.Date { return date(t.Year(), int(t.Month()), t.Day()) }

func utc(year, month, day int) time.Time {
	return time.Date(year, time.Month(month), day, 0, 0, 0, 0, time.UTC)
}

// slowDate reads a date as P3.3 says, with another calendar.
func slowDate(text string) (api.Date, api.Errno, int) {
	if len(text) > 64 {
		return api.Date{}, api.ErrLong, 0
	}
	form, place := slowShape(text, dateShapes)
	if form < 0 {
		return api.Date{}, api.ErrText, place
	}
	places := [][]int{{5, 8}, {4, 6}, {5}, {4}, {6, 9}, {5, 7}}[form]
	var year, a, b int
	if form == api.DateYear || form == api.DateYearBasic {
		fmt.Sscanf(text, dateLayouts[form], &year, &a)
		if d := utc(year, 1, a); a > 0 && d.Year() == year {
			return dateIn(d), api.OK, 0
		}
		return api.Date{}, api.ErrDate, places[0]
	}
	fmt.Sscanf(text, dateLayouts[form], &year, &a, &b)
	if form == api.DateDay || form == api.DateDayBasic {
		if a < 1 || a > 12 {
			return api.Date{}, api.ErrDate, places[0]
		}
		if d := utc(year, a, b); b < 1 || int(d.Month()) != a {
			return api.Date{}, api.ErrDate, places[1]
		}
		return date(year, a, b), api.OK, 0
	}
	if _, weeks := utc(year, 12, 28).ISOWeek(); a < 1 || a > weeks {
		return api.Date{}, api.ErrDate, places[0]
	}
	if b < 1 || b > 7 {
		return api.Date{}, api.ErrDate, places[1]
	}
	fourth := utc(year, 1, 4)
	monday := fourth.AddDate(0, 0, -(int(fourth.Weekday())+6)%7)
	d := monday.AddDate(0, 0, 7*(a-1)+b-1)
	if d.Year() > 9999 {
		return api.Date{}, api.ErrRange, 0
	}
	return dateIn(d), api.OK, 0
}

func wantDate(t *testing.T, text string, want api.Date, wantE api.Errno, wantAt int) {
	t.Helper()
	if d, e, at := cal.ParseDate(text); d != want || e != wantE || at != wantAt {
		t.Errorf("ParseDate(%q): %v, %d, %d; want %v, %d, %d", text, d, e, at, want, wantE, wantAt)
	}
}

func wantNoDate(t *testing.T, text string, wantE api.Errno, wantAt int) {
	t.Helper()
	wantDate(t, text, api.Date{}, wantE, wantAt)
}

func wantSlowDate(t *testing.T, text string) {
	t.Helper()
	d, e, at := slowDate(text)
	wantDate(t, text, d, e, at)
}

func wantPrinted(t *testing.T, d api.Date, form int, want string, wantE api.Errno) {
	t.Helper()
	if s, e := cal.PrintDate(d, form); s != want || e != wantE {
		t.Errorf("PrintDate(%v, %d): %q, %d; want %q, %d", d, form, s, e, want, wantE)
	}
}

var someYears = []int{0, 1, 3, 4, 96, 99, 100, 399, 400, 401, 1581, 1600, 1700, 1899, 1900, 1999, 2000, 2003, 2004, 2005, 2008, 2009, 2015, 2020, 2100, 2400, 8999, 9004, 9900, 9995, 9996, 9998, 9999}

// everyText goes over all texts of a shape with a year.
func everyText(year, form int) []string {
	var l []string
	most := [][]int{{100, 100}, {100, 100}, {1000}, {1000}, {100, 10}, {100, 10}}[form]
	for a := range most[0] {
		if len(most) == 1 {
			l = append(l, fmt.Sprintf(dateLayouts[form], year, a))
			continue
		}
		for b := range most[1] {
			l = append(l, fmt.Sprintf(dateLayouts[form], year, a, b))
		}
	}
	return l
}

func TestP3_3EveryTextOfEveryShape(t *testing.T) {
	for form := range dateShapes {
		for _, year := range someYears {
			for _, text := range everyText(year, form) {
				wantSlowDate(t, text)
			}
		}
	}
}

// rightDates are texts of dates in all forms.
func rightDates() []string {
	return []string{"2004-02-29", "20040229", "2004-060", "2004060", "2004-W09-7", "2004W097", "0000-01-01", "9999-12-31", "00000101", "99991231", "0000-001", "9999-365", "0000001", "9999365", "0000-W01-1", "9999-W52-5", "0000W011", "9999W525"}
}

func TestP3_3CutTextsAndLongerOnes(t *testing.T) {
	for _, text := range rightDates() {
		wantSlowDate(t, text)
		for n := range len(text) {
			wantSlowDate(t, text[:n])
			wantSlowDate(t, text[n+1:])
			wantSlowDate(t, text[:n]+text[n+1:])
		}
		for c := range 256 {
			one := string([]byte{byte(c)})
			for n := range len(text) + 1 {
				wantSlowDate(t, text[:n]+one+text[n:])
			}
		}
	}
}

func TestP3_3EveryByteInEveryPlace(t *testing.T) {
	for _, text := range rightDates() {
		for at := range len(text) {
			for c := range 256 {
				wantSlowDate(t, text[:at]+string([]byte{byte(c)})+text[at+1:])
			}
		}
	}
}

func TestP3_3AnyText(t *testing.T) {
	r := rand.New(rand.NewSource(3))
	for range 300000 {
		b := make([]byte, r.Intn(12))
		for i := range b {
			b[i] = "0123456789012-W-Wd"[r.Intn(18)]
		}
		wantSlowDate(t, string(b))
	}
}

func TestP3_3PlacesInTextsOfNoShape(t *testing.T) {
	for text, at := range map[string]int{
		"": 0, "x": 0, "2": 1, "200": 3, "2004": 4, "2004-": 5, "2004-0": 6, "2004-02": 7, "2004-02-": 8, "2004-02-2": 9, "2004-02-291": 10,
		"20040": 5, "200402": 6, "200402291": 8, "2004-0602": 8, "2004-060-": 8, "2004060-": 7, "2004W": 5, "2004-W": 6, "2004-W09": 8, "2004-W09-": 9,
		"2004-W09-71": 10, "2004W0971": 8, "2004W09": 7, "2004-W097": 8, "2004W09-7": 7, "2004--060": 5, "2004-02/29": 7, "2004w097": 4, " 2004-060": 0,
		"2004-060 ": 8, "dddd-dd-dd": 0, "200d-02-29": 3, "2004-d2-29": 5, "2004-0d-29": 6, "2004-02-2d": 9, "2004Wd97": 5, "-004-060": 0, "+2004-060": 0,
		"2004-02-29T00Z": 10, "２００４-060": 0, "2004\x00": 4,
	} {
		wantNoDate(t, text, api.ErrText, at)
	}
}

func TestP3_3PartsThatMayNotBe(t *testing.T) {
	for text, at := range map[string]int{
		"2004-00-00": 5, "2004-13-00": 5, "2004-99-99": 5, "2004-01-00": 8, "2004-01-32": 8, "2004-02-30": 8, "1900-02-29": 8, "2004-04-31": 8,
		"20040000": 4, "20041301": 4, "20040100": 6, "20040132": 6, "19000229": 6,
		"2004-000": 5, "2004-367": 5, "2003-366": 5, "2003-999": 5, "2004000": 4, "2003366": 4,
		"2004-W00-0": 6, "2004-W54-1": 6, "2003-W53-1": 6, "2003-W53-9": 6, "2004-W53-0": 9, "2004-W53-8": 9, "2004-W01-9": 9,
		"2004W000": 5, "2003W531": 5, "2004W530": 7, "2004W538": 7,
	} {
		wantNoDate(t, text, api.ErrDate, at)
	}
	for _, text := range []string{"9999-W52-6", "9999-W52-7", "9999W526", "9999W527"} {
		wantNoDate(t, text, api.ErrRange, 0)
	}
	wantNoDate(t, "9999-W53-6", api.ErrDate, 6)
	wantNoDate(t, "9999-W52-8", api.ErrDate, 9)
}

func TestP3_3LongTexts(t *testing.T) {
	wantNoDate(t, strings.Repeat("2", api.MaxStamp), api.ErrText, 8)
	wantNoDate(t, strings.Repeat("2", api.MaxStamp+1), api.ErrLong, 0)
	wantNoDate(t, "2004-02-29"+strings.Repeat(" ", api.MaxStamp-10), api.ErrText, 10)
	wantNoDate(t, "2004-02-29"+strings.Repeat(" ", api.MaxStamp-9), api.ErrLong, 0)
	wantNoDate(t, strings.Repeat("x", api.MaxStamp), api.ErrText, 0)
	wantNoDate(t, strings.Repeat("x", 1<<20), api.ErrLong, 0)
}

func TestP3_4EveryDayInEveryForm(t *testing.T) {
	for n := 0; n <= api.MaxDay; n++ {
		if n > 800 && n < api.MaxDay-800 {
			n += 12 // all days of weeks and of months still come up, in some year
		}
		d, _ := cal.Of(n)
		at := utc(d.Year, d.Month, d.Day)
		year, number := at.ISOWeek()
		day := (int(at.Weekday())+6)%7 + 1
		for form, want := range []string{
			fmt.Sprintf("%04d-%02d-%02d", d.Year, d.Month, d.Day), fmt.Sprintf("%04d%02d%02d", d.Year, d.Month, d.Day),
			fmt.Sprintf("%04d-%03d", d.Year, at.YearDay()), fmt.Sprintf("%04d%03d", d.Year, at.YearDay()),
			fmt.Sprintf("%04d-W%02d-%d", year, number, day), fmt.Sprintf("%04dW%02d%d", year, number, day),
		} {
			if n < 2 && form >= api.DateWeek {
				wantPrinted(t, d, form, "", api.ErrRange)
				continue
			}
			wantPrinted(t, d, form, want, api.OK)
			wantDate(t, want, d, api.OK, 0)
		}
		if t.Failed() {
			return
		}
	}
}

func TestP3_4ATextIsWhatItsDayPrints(t *testing.T) {
	taken := 0
	for form := range dateShapes {
		for _, year := range someYears {
			for _, text := range everyText(year, form) {
				if d, e, _ := cal.ParseDate(text); e == api.OK {
					wantPrinted(t, d, form, text, api.OK)
					taken++
				}
			}
		}
	}
	if taken < 6*364*len(someYears) {
		t.Errorf("%d texts", taken)
	}
}

func TestP3_4WhatIsNotPrinted(t *testing.T) {
	forms := append([]int{-1, -2, 6, 7, 100}, extremes...)
	for _, d := range noDays() {
		for form := range dateShapes {
			wantPrinted(t, d, form, "", api.ErrDate)
		}
		for _, form := range forms {
			wantPrinted(t, d, form, "", api.ErrDate)
		}
	}
	for _, form := range forms {
		wantPrinted(t, date(2004, 2, 29), form, "", api.ErrArg)
		wantPrinted(t, date(0, 1, 1), form, "", api.ErrArg)
	}
	wantPrinted(t, date(0, 1, 1), api.DateWeek, "", api.ErrRange)
	wantPrinted(t, date(0, 1, 1), api.DateWeekBasic, "", api.ErrRange)
	wantPrinted(t, date(0, 1, 2), api.DateWeek, "", api.ErrRange)
	wantPrinted(t, date(0, 1, 2), api.DateWeekBasic, "", api.ErrRange)
	wantPrinted(t, date(0, 1, 2), api.DateYear, "0000-002", api.OK)
	wantPrinted(t, date(0, 1, 3), api.DateWeekBasic, "0000W011", api.OK)
}
