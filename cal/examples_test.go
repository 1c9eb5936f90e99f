package cal_test

import (
	"slices"
	"testing"

	"larder/api"
	"larder/cal"
)

// The examples of the chapter, in their order.

func TestExample1And2DaysAndWeeks(t *testing.T) {
	for d, want := range map[api.Date]int{date(0, 1, 1): 0, date(1970, 1, 1): 719528, date(9999, 12, 31): 3652424} {
		if n, e := cal.Days(d); n != want || e != api.OK {
			t.Errorf("Days(%v): %d, %d", d, n, e)
		}
	}
	if d, e := cal.Of(60); d != date(0, 3, 1) || e != api.OK {
		t.Errorf("Of(60): %v, %d", d, e)
	}
	if n, e := cal.Days(date(1900, 2, 29)); n != 0 || e != api.ErrDate {
		t.Errorf("Days(1900-02-29): %d, %d", n, e)
	}
	for d, want := range map[api.Date]api.Week{date(2000, 1, 1): week(1999, 52, 6), date(2015, 12, 31): week(2015, 53, 4)} {
		if w, e := cal.WeekOf(d); w != want || e != api.OK {
			t.Errorf("WeekOf(%v): %v, %d", d, w, e)
		}
	}
	if d, e := cal.FromWeek(week(0, 1, 1)); d != date(0, 1, 3) || e != api.OK {
		t.Errorf("FromWeek(0, 1, 1): %v, %d", d, e)
	}
	wantNoWeek(t, week(9999, 52, 6), api.ErrRange)
	wantNoWeek(t, week(2014, 53, 1), api.ErrDate)
}

func TestExample3And4Dates(t *testing.T) {
	for _, text := range []string{"2004-060", "2004-02-29", "2004W097"} {
		wantDate(t, text, date(2004, 2, 29), api.OK, 0)
	}
	wantNoDate(t, "2004-0229", api.ErrText, 8)
	wantNoDate(t, "2004", api.ErrText, 4)
	wantNoDate(t, "2004-W9-1", api.ErrText, 7)
	wantNoDate(t, "2003-02-29", api.ErrDate, 8)
	wantNoDate(t, "2003-13-01", api.ErrDate, 5)
	wantNoDate(t, "2003-366", api.ErrDate, 5)
	wantPrinted(t, date(0, 1, 2), api.DateWeek, "", api.ErrRange)
	wantPrinted(t, date(0, 1, 3), api.DateWeek, "0000-W01-1", api.OK)
}

func TestExample5And6Instants(t *testing.T) {
	for _, text := range []string{"1970-01-01T00:00:00Z", "19700101T0100+01", "1969-12-31T24Z"} {
		wantInstant(t, text, 62167219200, api.OK, 0)
	}
	wantNoInstant(t, "1970-01-01T0000Z", api.ErrTime, 13)
	wantNoInstant(t, "1970-01-01T00:60Z", api.ErrTime, 14)
	wantNoInstant(t, "1970-01-01T00:00", api.ErrZone, 16)
	wantNoInstant(t, "1970-01-01T00:00-00:00", api.ErrZone, 16)
	wantNoInstant(t, "0000-01-01T00:00+00:01", api.ErrRange, 0)
	wantNoInstant(t, "1970-01-01", api.ErrTime, 10)
	wantShown(t, 0, -1, "", api.ErrRange)
	wantShown(t, 0, 90, "0000-01-01T01:30:00+01:30", api.OK)
}

func TestExample7And8Spans(t *testing.T) {
	wantSpan(t, "P1Y2M3DT4H5M6S", api.Span{Years: 1, Months: 2, Days: 3, Hours: 4, Minutes: 5, Seconds: 6}, api.OK, 0)
	wantSpan(t, "P3W", api.Span{Weeks: 3}, api.OK, 0)
	for text, at := range map[string]int{"P": 1, "PT": 2, "P1M1Y": 4, "P1W1D": 3, "P1Y1W": 4, "P1234567890D": 10, "1Y": 0} {
		wantNoSpan(t, text, api.ErrSpan, at)
	}
	wantSum(t, instant("2004-01-31T12:00:00Z"), api.Span{Months: 1}, false, instant("2004-02-29T12:00:00Z"), api.OK)
	wantSum(t, instant("2004-02-29T00Z"), api.Span{Years: 1}, false, instant("2005-02-28T00Z"), api.OK)
	wantSum(t, instant("2004-03-31T00Z"), api.Span{Months: 1}, true, instant("2004-02-29T00Z"), api.OK)
}

func TestExample9And10Opening(t *testing.T) {
	r := api.Rule{Days: workdays}
	wantMove(t, r, date(2004, 1, 2), 1, date(2004, 1, 5), api.OK)
	wantMove(t, api.Rule{Days: workdays, Shut: []api.Date{date(2004, 1, 5)}}, date(2004, 1, 2), 1, date(2004, 1, 6), api.OK)
	wantMove(t, r, date(2004, 1, 3), 0, api.Date{}, api.ErrShut)
	wantCount(t, r, date(2004, 1, 1), date(2005, 1, 1), 262, api.OK)
	if l := listed(date(2004, 2, 27), date(2004, 3, 1), 2); !slices.Equal(l, []api.Date{date(2004, 2, 27), date(2004, 2, 29)}) {
		t.Errorf("Each: %v", l)
	}
	if l := listed(date(2004, 1, 1), date(2003, 12, 30), -1); !slices.Equal(l, []api.Date{date(2004, 1, 1), date(2003, 12, 31), date(2003, 12, 30)}) {
		t.Errorf("Each: %v", l)
	}
}
