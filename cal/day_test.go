package cal_test

import (
	"math"
	"testing"

	"larder/api"
	"larder/cal"
)

func date(year, month, day int) api.Date { return api.Date{Year: year, Month: month, Day: day} }

func week(year, number, day int) api.Week { return api.Week{Year: year, Week: number, Day: day} }

// slowLast answers a month's last day as section 3.1 tells it.
func slowLast(year, month int) int {
	lengths := []int{31, 28, 31, 30, 31, 30, 31, 31, 30, 31, 30, 31}
	if month == 2 && (year%400 == 0 || year%4 == 0 && year%100 != 0) {
		return 29
	}
	return lengths[month-1]
}

// allDays goes over all days in their order, year by year and month by month, with their numbers.
func allDays(yield func(n int, d api.Date) bool) {
	n := 0
	for year := range 10000 {
		for month := 1; month <= 12; month++ {
			for day := 1; day <= slowLast(year, month); day++ {
				if !yield(n, date(year, month, day)) {
					return
				}
				n++
			}
		}
	}
}

// extremes are numbers that no limit lets through.
var extremes = []int{math.MinInt, math.MinInt + 1, -1 << 62, -1 << 40, 1 << 40, 1<<40 + 1, 1 << 62, math.MaxInt - 1, math.MaxInt}

// noDays are dates that are no days.
func noDays() []api.Date {
	l := []api.Date{{}, date(-1, 1, 1), date(-1, 12, 31), date(-4, 2, 29), date(-400, 2, 29), date(10000, 1, 1), date(10000, 12, 31)}
	for _, n := range extremes {
		l = append(l, date(n, 1, 1), date(2004, n, 1), date(2004, 1, n), date(n, n, n))
	}
	for _, year := range []int{0, 1, 4, 100, 400, 1900, 2000, 2003, 2004, 9996, 9999} {
		for _, month := range []int{-1, 0, 13, 14} {
			l = append(l, date(year, month, 1), date(year, month, 0), date(year, month, 31))
		}
		for month := 1; month <= 12; month++ {
			last := slowLast(year, month)
			l = append(l, date(year, month, 0), date(year, month, -1), date(year, month, last+1), date(year, month, 32))
		}
	}
	return l
}

func TestP3_1EveryDayAndItsNumber(t *testing.T) {
	days := 0
	for n, d := range allDays {
		if !cal.Valid(d) {
			t.Fatalf("Valid(%v): false", d)
		}
		if got, e := cal.Days(d); got != n || e != api.OK {
			t.Fatalf("Days(%v): %d, %d; want %d", d, got, e, n)
		}
		if got, e := cal.Of(n); got != d || e != api.OK {
			t.Fatalf("Of(%d): %v, %d; want %v", n, got, e, d)
		}
		days++
	}
	if days != api.MaxDay+1 {
		t.Errorf("%d days", days)
	}
}

func TestP3_1WhatIsNoDay(t *testing.T) {
	for _, d := range noDays() {
		if cal.Valid(d) {
			t.Errorf("Valid(%v): true", d)
		}
		if n, e := cal.Days(d); n != 0 || e != api.ErrDate {
			t.Errorf("Days(%v): %d, %d", d, n, e)
		}
	}
}

func TestP3_1NumbersOfNoDay(t *testing.T) {
	for _, n := range append([]int{-1, -2, -365, -366, -api.MaxDay, api.MaxDay + 1, api.MaxDay + 2, 2 * api.MaxDay}, extremes...) {
		if d, e := cal.Of(n); d != (api.Date{}) || e != api.ErrRange {
			t.Errorf("Of(%d): %v, %d", n, d, e)
		}
	}
}

func TestP3_1LeapYears(t *testing.T) {
	for year, leap := range map[int]bool{0: true, 1: false, 2: false, 3: false, 4: true, 96: true, 100: false, 200: false, 300: false, 400: true, 1900: false, 1996: true, 2000: true, 2100: false, 9996: true, 9900: false, 9600: true, 9999: false} {
		if got := cal.Valid(date(year, 2, 29)); got != leap {
			t.Errorf("Valid(%d-02-29): %v", year, got)
		}
		first, _ := cal.Days(date(year, 1, 1))
		last, _ := cal.Days(date(year, 12, 31))
		if days := last - first + 1; leap != (days == 366) || !leap != (days == 365) {
			t.Errorf("%d has %d days", year, days)
		}
	}
}

// yearsOf has the year of each day, by its number.
func yearsOf() []int {
	l := make([]int, 0, api.MaxDay+1)
	for _, d := range allDays {
		l = append(l, d.Year)
	}
	return l
}

// allWeeks goes over all weeks with days of the calendar: the number of their Thursday, and the Thursday in its week.
func allWeeks(yield func(thursday int, w api.Week) bool) {
	years := yearsOf()
	last, number := -1, 52-1
	for thursday := -2; thursday <= api.MaxDay+3; thursday += 7 {
		year := -1
		if thursday >= 0 && thursday < len(years) {
			year = years[thursday]
		}
		if year != last {
			last, number = year, 0
		}
		number++
		if !yield(thursday, week(year, number, 4)) {
			return
		}
	}
}

func TestP3_2EveryDayAndItsWeek(t *testing.T) {
	seen := 0
	for thursday, w := range allWeeks {
		for day := 1; day <= 7; day++ {
			n := thursday - 4 + day
			w.Day = day
			d, e := cal.FromWeek(w)
			if n < 0 || n > api.MaxDay {
				if d != (api.Date{}) || e != api.ErrRange {
					t.Fatalf("FromWeek(%v): %v, %d; want ErrRange", w, d, e)
				}
				continue
			}
			seen++
			want, _ := cal.Of(n)
			if d != want || e != api.OK {
				t.Fatalf("FromWeek(%v): %v, %d; want %v", w, d, e, want)
			}
			if got, e := cal.WeekOf(want); got != w || e != api.OK {
				t.Fatalf("WeekOf(%v): %v, %d; want %v", want, got, e, w)
			}
		}
	}
	if seen != api.MaxDay+1 {
		t.Errorf("%d days", seen)
	}
}

// yearsWeeks answers how many weeks each year has.
func yearsWeeks() map[int]int {
	l := map[int]int{}
	for _, w := range allWeeks {
		l[w.Year] = w.Week
	}
	return l
}

func wantNoWeek(t *testing.T, w api.Week, want api.Errno) {
	t.Helper()
	if d, e := cal.FromWeek(w); d != (api.Date{}) || e != want {
		t.Errorf("FromWeek(%v): %v, %d; want %d", w, d, e, want)
	}
}

func TestP3_2WeeksThatAYearHasNot(t *testing.T) {
	long := 0
	for year, weeks := range yearsWeeks() {
		if weeks == 53 {
			long++
		} else if weeks != 52 {
			t.Fatalf("%d has %d weeks", year, weeks)
		}
		for _, number := range []int{-1, 0, weeks + 1, 54} {
			for day := range 9 {
				wantNoWeek(t, week(year, number, day), api.ErrDate)
			}
		}
		for _, number := range []int{1, weeks} {
			for _, day := range []int{-1, 0, 8} {
				wantNoWeek(t, week(year, number, day), api.ErrDate)
			}
		}
	}
	if long != 71*25 {
		t.Errorf("%d years of 53 weeks", long)
	}
	for _, n := range extremes {
		wantNoWeek(t, week(n, 1, 1), api.ErrDate)
		wantNoWeek(t, week(2004, n, 1), api.ErrDate)
		wantNoWeek(t, week(2004, 1, n), api.ErrDate)
		wantNoWeek(t, week(n, n, n), api.ErrDate)
	}
}

func TestP3_2TheYearsBeside(t *testing.T) {
	for number := 1; number <= 52; number++ {
		for day := 1; day <= 7; day++ {
			if number < 52 || day < 6 {
				wantNoWeek(t, week(-1, number, day), api.ErrRange)
			}
			wantNoWeek(t, week(-2, number, day), api.ErrDate)
			wantNoWeek(t, week(10000, number, day), api.ErrDate)
		}
	}
	wantNoWeek(t, week(-1, 53, 6), api.ErrDate)
	wantNoWeek(t, week(-1, 0, 1), api.ErrDate)
	wantNoWeek(t, week(-1, 1, 8), api.ErrDate)
	wantNoWeek(t, week(-1, 52, 8), api.ErrDate)
	wantNoWeek(t, week(9999, 52, 6), api.ErrRange)
	wantNoWeek(t, week(9999, 52, 7), api.ErrRange)
	wantNoWeek(t, week(9999, 52, 8), api.ErrDate)
	wantNoWeek(t, week(9999, 53, 1), api.ErrDate)
}

func TestP3_2AroundNewYear(t *testing.T) {
	for d, w := range map[api.Date]api.Week{
		date(0, 1, 1): week(-1, 52, 6), date(0, 1, 2): week(-1, 52, 7), date(0, 1, 3): week(0, 1, 1),
		date(2004, 12, 31): week(2004, 53, 5), date(2005, 1, 1): week(2004, 53, 6), date(2005, 1, 2): week(2004, 53, 7), date(2005, 1, 3): week(2005, 1, 1),
		date(2005, 12, 31): week(2005, 52, 6), date(2006, 1, 1): week(2005, 52, 7), date(2006, 1, 2): week(2006, 1, 1),
		date(2006, 12, 31): week(2006, 52, 7), date(2007, 1, 1): week(2007, 1, 1), date(2007, 12, 30): week(2007, 52, 7),
		date(2007, 12, 31): week(2008, 1, 1), date(2008, 12, 28): week(2008, 52, 7), date(2008, 12, 29): week(2009, 1, 1),
		date(2009, 12, 31): week(2009, 53, 4), date(2010, 1, 3): week(2009, 53, 7), date(9999, 12, 31): week(9999, 52, 5),
	} {
		if got, e := cal.WeekOf(d); got != w || e != api.OK {
			t.Errorf("WeekOf(%v): %v, %d; want %v", d, got, e, w)
		}
		if got, e := cal.FromWeek(w); got != d || e != api.OK {
			t.Errorf("FromWeek(%v): %v, %d; want %v", w, got, e, d)
		}
	}
}

func TestP3_2WeekOfWhatIsNoDay(t *testing.T) {
	for _, d := range noDays() {
		if w, e := cal.WeekOf(d); w != (api.Week{}) || e != api.ErrDate {
			t.Errorf("WeekOf(%v): %v, %d", d, w, e)
		}
	}
}
