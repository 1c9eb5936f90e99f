package cal_test

import (
	"fmt"
	"math/rand"
	"strings"
	"testing"
	"time"

	"larder/api"
	"larder/cal"
)

const epoch = 62167219200 // 1970-01-01T00:00:00Z

// slowInstant reads an instant as P3.5 says, with another calendar.
func slowInstant(text string) (int, api.Errno, int) {
	if len(text) > 64 {
		return 0, api.ErrLong, 0
	}
	day := strings.Split(text, "T")[0]
	d, e, at := slowDate(day)
	if e != api.OK {
		return 0, e, at
	}
	if day == text {
		return 0, api.ErrTime, len(text)
	}
	start := len(day) + 1
	end := start
	for end < len(text) && strings.IndexByte("Z+-", text[end]) < 0 {
		end++
	}
	times, zones := []string{"dd", "dddd", "dddddd"}, []string{"Z", "+dd", "+dddd"}
	if strings.Contains(day, "-") {
		times, zones = []string{"dd", "dd:dd", "dd:dd:dd"}, []string{"Z", "+dd", "+dd:dd"}
	}
	if form, at := slowShape(text[start:end], times); form < 0 {
		return 0, api.ErrTime, start + at
	}
	clock, places := twos(text, start, end)
	for i, most := range []int{24, 59, 59} {
		if clock[i] > most || i == 0 && clock[0] == 24 && clock[1]+clock[2] > 0 {
			return 0, api.ErrTime, places[i]
		}
	}
	if end == len(text) {
		return 0, api.ErrZone, end
	}
	if form, at := slowShape(strings.Replace(text[end:], "-", "+", strings.Index(text[end:], "-")+1), zones); form < 0 {
		return 0, api.ErrZone, end + at
	}
	zone, places := twos(text, end, len(text))
	for i, most := range []int{23, 59} {
		if zone[i] > most {
			return 0, api.ErrZone, places[i]
		}
	}
	east := 60*zone[0] + zone[1]
	if text[end] == '-' {
		east = -east
		if east == 0 {
			return 0, api.ErrZone, end
		}
	}
	second := int(utc(d.Year, d.Month, d.Day).Unix()) + epoch + 3600*clock[0] + 60*clock[1] + clock[2] - 60*east
	if second < 0 || second > 315569519999 {
		return 0, api.ErrRange, 0
	}
	return second, api.OK, 0
}

// twos reads numbers of two digits between two places, with theirs; three at least.
func twos(text string, from, to int) (l, places []int) {
	for from < to {
		if strings.IndexByte("0123456789", text[from]) < 0 {
			from++
			continue
		}
		n := 0
		fmt.Sscanf(text[from:from+2], "%2d", &n)
		l, places = append(l, n), append(places, from)
		from += 2
	}
	return append(l, 0, 0, 0), append(places, -1, -1, -1)
}

func wantInstant(t *testing.T, text string, want int, wantE api.Errno, wantAt int) {
	t.Helper()
	if s, e, at := cal.ParseInstant(text); s != want || e != wantE || at != wantAt {
		t.Errorf("ParseInstant(%q): %d, %d, %d; want %d, %d, %d", text, s, e, at, want, wantE, wantAt)
	}
}

func wantNoInstant(t *testing.T, text string, wantE api.Errno, wantAt int) {
	t.Helper()
	wantInstant(t, text, 0, wantE, wantAt)
}

func wantSlowInstant(t *testing.T, text string) {
	t.Helper()
	s, e, at := slowInstant(text)
	wantInstant(t, text, s, e, at)
}

func wantShown(t *testing.T, second, zone int, want string, wantE api.Errno) {
	t.Helper()
	if s, e := cal.PrintInstant(second, zone); s != want || e != wantE {
		t.Errorf("PrintInstant(%d, %d): %q, %d; want %q, %d", second, zone, s, e, want, wantE)
	}
}

var (
	someDates = []string{"1970-01-01", "19700101", "1970-001", "1970001", "1970-W01-4", "1970W014", "0000-01-01", "0000001", "9999-12-31", "99991231", "9999-W52-5", "2004-02-29",
		"1970-02-29", "1970-13-01", "9999-W52-6", "9999W527", "", "1970", "1970-01-1", "1970-01-01 "}
	someTimes = []string{"", "00", "01", "23", "24", "25", "99", "0", "00:", "00:0", "00:00", "00:59", "00:60", "23:59", "24:00", "24:01", "24:60", "24:99:99", "25:60", "00:00:", "00:00:0", "00:00:00",
		"23:59:59", "23:59:60", "23:60:60", "24:00:00", "24:00:01", "24:00:60", "24:10:00", "00:00:00:", "00:00:000", "0000", "0059", "0060", "2400", "2401", "2460", "2500", "000", "00000", "000000", "235959", "235960", "240000", "240001",
		"240100", "0000000", "00:0000", "0000:00", "00.00", "d0", "0d", "00,5", "00:00:00.5", " 00", "00 "}
	someZones = []string{"", "Z", "ZZ", "Z0", "z", "+", "-", "+0", "-0", "+00", "-00", "+01", "-01", "+23", "-23", "+24", "-24", "+99", "+00:", "+00:0", "+00:00", "-00:00", "-00:01", "+00:59", "+00:60", "-00:60", "+24:60", "+23:59", "-23:59",
		"+01:000", "+0000", "-0000", "-0001", "+0060", "+2359", "-2359", "+2400", "+000", "+00000", "+-00", "--00", "+Z", "-Z", "+0d", "+01:30Z", "+01 "}
)

func TestP3_5EveryDateTimeAndZone(t *testing.T) {
	right := 0
	for _, d := range someDates {
		wantSlowInstant(t, d)
		for _, c := range someTimes {
			for _, z := range someZones {
				text := d + "T" + c + z
				wantSlowInstant(t, text)
				if _, e, _ := slowInstant(text); e == api.OK {
					right++
				}
			}
		}
	}
	if right < 300 {
		t.Errorf("only %d of the texts are instants", right)
	}
}

// rightInstants are texts of instants of many shapes.
func rightInstants() []string {
	return []string{"1970-01-01T00:00:00Z", "2004-02-29T23:59:59+23:59", "19700101T000000-2359", "2004060T24Z", "2004-W09-7T24:00-00:01", "2004W097T2400+01", "9999-12-31T24:00:00+00:01"}
}

func TestP3_5CutTextsAndLongerOnes(t *testing.T) {
	for _, text := range rightInstants() {
		wantSlowInstant(t, text)
		for n := range len(text) {
			wantSlowInstant(t, text[:n])
			wantSlowInstant(t, text[:n]+text[n+1:])
		}
		for c := range 256 {
			one := string([]byte{byte(c)})
			for n := range len(text) {
				wantSlowInstant(t, text[:n]+one+text[n:])
				wantSlowInstant(t, text[:n]+one+text[n+1:])
			}
			wantSlowInstant(t, text+one)
		}
	}
}

func TestP3_5EveryNumberOfEveryPart(t *testing.T) {
	for n := range 100 {
		for _, layout := range []string{
			"2004-02-29T%02dZ", "2004-02-29T%02d:00Z", "2004-02-29T%02d:00:00Z", "2004-02-29T00:%02dZ", "2004-02-29T00:00:%02dZ", "2004-02-29T24:%02dZ", "2004-02-29T24:00:%02dZ",
			"20040229T%02dZ", "20040229T%02d00Z", "20040229T%02d0000Z", "20040229T00%02dZ", "20040229T0000%02dZ", "20040229T24%02dZ", "20040229T2400%02dZ",
			"2004-02-29T12:00+%02d", "2004-02-29T12:00-%02d", "2004-02-29T12:00+%02d:00", "2004-02-29T12:00-%02d:00", "2004-02-29T12:00+00:%02d", "2004-02-29T12:00-00:%02d",
			"20040229T12+%02d", "20040229T12-%02d", "20040229T12+%02d00", "20040229T12-%02d00", "20040229T12+00%02d", "20040229T12-00%02d",
		} {
			wantSlowInstant(t, fmt.Sprintf(layout, n))
		}
	}
}

func TestP3_5Instants(t *testing.T) {
	for text, want := range map[string]int{
		"0000-01-01T00:00:00Z": 0, "0000-01-01T00:00:01Z": 1, "0000-01-01T00:01Z": 60, "0000-01-01T01Z": 3600, "0000-01-01T24Z": 86400, "0000-01-01T23:59:59Z": 86399,
		"0000-01-01T01:30+01:30": 0, "0000-01-01T00:00-23:59": 86340, "00000101T00-2359": 86340, "0000-01-01T00:00+00": 0, "0000-01-01T00:00+00:00": 0, "0000001T0000+0000": 0,
		"0000-01-01T23:59+23:59": 0, "0000-01-02T00:00+23:59": 60, "9999-12-31T23:59:59Z": api.MaxSecond, "9999-12-31T24:00+00:01": api.MaxSecond - 59,
		"9999-12-31T24+23": api.MaxSecond + 1 - 82800, "1970-01-01T00:00:00Z": epoch, "1970001T00Z": epoch, "1970W014T000000Z": epoch, "1970-W01-4T00:00Z": epoch,
		"1969-12-31T24:00:00Z": epoch, "19691231T240000Z": epoch, "19691231T2400Z": epoch, "1969-365T24:00Z": epoch, "2003-12-31T24Z": epoch + 1072915200,
		"2004-02-29T00Z": epoch + 1078012800, "2004-02-28T24:00:00+00:00": epoch + 1078012800, "2004-02-29T05:45+05:45": epoch + 1078012800,
	} {
		wantInstant(t, text, want, api.OK, 0)
	}
}

func TestP3_5FaultsAndPlaces(t *testing.T) {
	for _, x := range []struct {
		text string
		e    api.Errno
		at   int
	}{
		{"", api.ErrText, 0}, {"T", api.ErrText, 0}, {"T00Z", api.ErrText, 0}, {"1970-01-0T00Z", api.ErrText, 9}, {"1970-01-01Z", api.ErrText, 10}, {"1970-01-01t00Z", api.ErrText, 10},
		{"1970-02-29T", api.ErrDate, 8}, {"9999-W52-6T00Z", api.ErrRange, 0}, {"9999-W52-6", api.ErrRange, 0}, {"9999W526T00+2359", api.ErrRange, 0},
		{"1970-01-01", api.ErrTime, 10}, {"1970001", api.ErrTime, 7}, {"1970-01-01T", api.ErrTime, 11}, {"1970-01-01TZ", api.ErrTime, 11}, {"1970-01-01T0Z", api.ErrTime, 12},
		{"1970-01-01TT00Z", api.ErrTime, 11}, {"1970-01-01T00T00Z", api.ErrTime, 13}, {"1970-01-01T0000", api.ErrTime, 13}, {"19700101T00:00Z", api.ErrTime, 11},
		{"1970-01-01T24:01Z", api.ErrTime, 11}, {"1970-01-01T24:00:01Z", api.ErrTime, 11}, {"1970-01-01T24:60Z", api.ErrTime, 11}, {"1970-01-01T24:00:60Z", api.ErrTime, 11},
		{"1970-01-01T25:60", api.ErrTime, 11}, {"1970-01-01T23:60:60", api.ErrTime, 14}, {"1970-01-01T23:59:60", api.ErrTime, 17}, {"19700101T2360Z", api.ErrTime, 11}, {"19700101T235960Z", api.ErrTime, 13},
		{"1970-01-01T00:00:00x", api.ErrTime, 19}, {"1970-01-01T00:00:00", api.ErrZone, 19}, {"1970-01-01T00", api.ErrZone, 13}, {"19700101T00", api.ErrZone, 11},
		{"1970-01-01T00ZZ", api.ErrZone, 14}, {"1970-01-01T00+", api.ErrZone, 14}, {"1970-01-01T00+1", api.ErrZone, 15}, {"1970-01-01T00+0100", api.ErrZone, 16}, {"1970-01-01T00+01:", api.ErrZone, 17},
		{"1970-01-01T00+01:0", api.ErrZone, 18}, {"1970-01-01T00+01:000", api.ErrZone, 19}, {"1970-01-01T00+24", api.ErrZone, 14}, {"1970-01-01T00+24:60", api.ErrZone, 14}, {"1970-01-01T00+23:60", api.ErrZone, 17},
		{"19700101T00+01:00", api.ErrZone, 14}, {"19700101T00+0160", api.ErrZone, 14}, {"1970-01-01T00-00", api.ErrZone, 13}, {"1970-01-01T00-00:00", api.ErrZone, 13}, {"19700101T00-0000", api.ErrZone, 11},
		{"1970-01-01T00-00:60", api.ErrZone, 17}, {"0000-01-01T00+00:01", api.ErrRange, 0}, {"0000-01-01T23:58:59+23:59", api.ErrRange, 0}, {"9999-12-31T24Z", api.ErrRange, 0},
		{"9999-12-31T23:59:00-00:01", api.ErrRange, 0}, {"9999-12-31T24:00:00+00:00", api.ErrRange, 0},
	} {
		wantNoInstant(t, x.text, x.e, x.at)
	}
}

func TestP3_5LongTexts(t *testing.T) {
	right := "1970-01-01T00:00:00Z"
	wantNoInstant(t, right+strings.Repeat("Z", api.MaxStamp-len(right)), api.ErrZone, len(right))
	wantNoInstant(t, right+strings.Repeat("Z", api.MaxStamp+1-len(right)), api.ErrLong, 0)
	wantNoInstant(t, strings.Repeat("x", api.MaxStamp), api.ErrText, 0)
	wantNoInstant(t, strings.Repeat("T", api.MaxStamp+1), api.ErrLong, 0)
	wantNoInstant(t, strings.Repeat("1", 1<<20), api.ErrLong, 0)
}

func TestP3_6EveryZone(t *testing.T) {
	for _, second := range []int{86340, epoch, epoch + 951782400 - 1, api.MaxSecond - 86340} {
		for zone := -api.MaxZone; zone <= api.MaxZone; zone++ {
			at := time.Unix(int64(second-epoch), 0).In(time.FixedZone("", 60*zone))
			text := at.Format("2006-01-02T15:04:05Z07:00")
			wantShown(t, second, zone, text, api.OK)
			wantInstant(t, text, second, api.OK, 0)
		}
	}
}

func TestP3_6AnyInstant(t *testing.T) {
	r := rand.New(rand.NewSource(6))
	for range 100000 {
		second, zone := r.Intn(api.MaxSecond+1), r.Intn(2*api.MaxZone+1)-api.MaxZone
		if second+60*zone < 0 || second+60*zone > api.MaxSecond {
			continue
		}
		text := time.Unix(int64(second-epoch), 0).In(time.FixedZone("", 60*zone)).Format("2006-01-02T15:04:05Z07:00")
		wantShown(t, second, zone, text, api.OK)
		wantInstant(t, text, second, api.OK, 0)
	}
}

func TestP3_6Ends(t *testing.T) {
	wantShown(t, 0, 0, "0000-01-01T00:00:00Z", api.OK)
	wantShown(t, 0, 1, "0000-01-01T00:01:00+00:01", api.OK)
	wantShown(t, 0, api.MaxZone, "0000-01-01T23:59:00+23:59", api.OK)
	wantShown(t, 60, -1, "0000-01-01T00:00:00-00:01", api.OK)
	wantShown(t, 86340, -api.MaxZone, "0000-01-01T00:00:00-23:59", api.OK)
	wantShown(t, api.MaxSecond, 0, "9999-12-31T23:59:59Z", api.OK)
	wantShown(t, api.MaxSecond, -1, "9999-12-31T23:58:59-00:01", api.OK)
	wantShown(t, api.MaxSecond-60, 1, "9999-12-31T23:59:59+00:01", api.OK)
	wantShown(t, api.MaxSecond-86340, api.MaxZone, "9999-12-31T23:59:59+23:59", api.OK)
	wantShown(t, 59, -1, "", api.ErrRange)
	wantShown(t, 0, -1, "", api.ErrRange)
	wantShown(t, 86339, -api.MaxZone, "", api.ErrRange)
	wantShown(t, api.MaxSecond, 1, "", api.ErrRange)
	wantShown(t, api.MaxSecond-59, 1, "", api.ErrRange)
	wantShown(t, api.MaxSecond-86339, api.MaxZone, "", api.ErrRange)
}

func TestP3_6WhatIsNotPrinted(t *testing.T) {
	zones := append([]int{-api.MaxZone - 1, api.MaxZone + 1}, extremes...)
	for _, second := range append([]int{-1, -86400, api.MaxSecond + 1}, extremes...) {
		for _, zone := range append([]int{0, 60, -60}, zones...) {
			wantShown(t, second, zone, "", api.ErrRange)
		}
	}
	for _, zone := range zones {
		for _, second := range []int{0, epoch, api.MaxSecond} {
			wantShown(t, second, zone, "", api.ErrZone)
		}
	}
}
