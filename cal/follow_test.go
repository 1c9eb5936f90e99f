package cal_test

import (
	"math/rand"
	"testing"

	"larder/api"
	"larder/cal"
)

func TestP3_14FourHundredYears(t *testing.T) {
	for year := 0; year+400 <= 9999; year++ {
		for _, d := range []api.Date{date(year, 1, 1), date(year, 3, 1), date(year, 12, 31)} {
			then := date(d.Year+400, d.Month, d.Day)
			if n := number(then) - number(d); n != 146097 || n%7 != 0 {
				t.Fatalf("%d days from %v to %v", n, d, then)
			}
			a, _ := cal.WeekOf(d)
			b, _ := cal.WeekOf(then)
			if a.Week != b.Week || a.Day != b.Day || a.Year+400 != b.Year {
				t.Fatalf("%v: %v, %v: %v", d, a, then, b)
			}
		}
	}
}

func TestP3_14TwentyEightYears(t *testing.T) {
	for year := 1901; year+28 <= 2099; year++ {
		for d := range cal.Each(date(year, 1, 1), date(year, 12, 31), 1) {
			a, _ := cal.WeekOf(d)
			b, e := cal.WeekOf(date(d.Year+28, d.Month, d.Day))
			if e != api.OK || a.Day != b.Day || a.Week != b.Week {
				t.Fatalf("%v: %v, %d; 28 years on: %v", d, a, e, b)
			}
		}
	}
	a, _ := cal.WeekOf(date(1885, 3, 1))
	if b, _ := cal.WeekOf(date(1913, 3, 1)); a.Day == b.Day {
		t.Errorf("28 years over 1900 come round as well: %d", a.Day)
	}
}

func TestP3_14ThereAndBack(t *testing.T) {
	r := rand.New(rand.NewSource(14))
	held := 0
	for i := range 100000 {
		s := api.Span{Days: r.Intn(1000000), Hours: r.Intn(1000), Minutes: r.Intn(100000), Seconds: r.Intn(api.MaxPart)}
		if i%3 == 0 {
			s = api.Span{Weeks: r.Intn(200000)}
		}
		second, back := r.Intn(api.MaxSecond+1), i%2 == 0
		there, e := cal.AddSpan(second, s, back)
		if e != api.OK {
			continue
		}
		held++
		wantSum(t, there, s, !back, second, api.OK)
	}
	if held < 10000 {
		t.Errorf("only %d spans", held)
	}
}
