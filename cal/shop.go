package cal

import (
	"iter"
	"slices"

	"larder/api"
)

// A shop is a rule that was found right: its week, and the days that do not follow it, in one rising list.
type shop struct {
	week    [weekDays]bool
	special []special
}

// A special day is open or shut, whatever the week says.
type special struct {
	day  int
	open bool
}

// Open says whether the shop is open on a day.
func Open(r api.Rule, d api.Date) (bool, api.Errno) {
	s, day, e := shopOn(r, d)
	if e != api.OK {
		return false, e
	}
	return s.along(day, 1)(), api.OK
}

// Move answers the n-th open day behind a day, or ahead of it with n below 0; with n 0 the day itself, if it is one.
func Move(r api.Rule, d api.Date, n int) (api.Date, api.Errno) {
	s, day, e := shopOn(r, d)
	if e != api.OK {
		return api.Date{}, e
	}
	if n < -api.MaxMove || n > api.MaxMove {
		return api.Date{}, api.ErrArg
	}
	if n == 0 {
		if !s.along(day, 1)() {
			return api.Date{}, api.ErrShut
		}
		return d, api.OK
	}
	left, step, end := n, 1, dateOf(api.MaxDay)
	if n < 0 {
		left, step, end = -n, -1, dateOf(0)
	}
	open := s.along(day, step)
	for at := range Each(d, end, step) {
		if open() && at != d {
			left--
		}
		if left == 0 {
			return at, api.OK
		}
	}
	return api.Date{}, api.ErrRange
}

// Count answers how many open days there are from a day to the one ahead of another.
func Count(r api.Rule, from, to api.Date) (int, api.Errno) {
	s, day, e := shopOn(r, from)
	if e != api.OK {
		return 0, e
	}
	end, e := Days(to)
	if e != api.OK {
		return 0, e
	}
	if end < day {
		return 0, api.ErrArg
	}
	count := 0
	open := s.along(day, 1)
	for at := range Each(from, to, 1) {
		if open() && at != to {
			count++
		}
	}
	return count, api.OK
}

// Each goes over days, a step apart, up to a day that it may reach but not pass.
func Each(from, to api.Date, step int) iter.Seq[api.Date] {
	first, e := Days(from)
	last, f := Days(to)
	if e != api.OK || f != api.OK {
		step = 0
	}
	step = min(max(step, -api.MaxDay-1), api.MaxDay+1) // this far leads out of all days, and no sum runs over
	return func(yield func(api.Date) bool) {
		for n := first; step > 0 && n <= last || step < 0 && n >= last; n += step {
			if !yield(dateOf(n)) {
				return
			}
		}
	}
}

// shopOn answers the shop of a rule and the number of a day; an error, if the rule is not right or the day is none.
func shopOn(r api.Rule, d api.Date) (shop, int, api.Errno) {
	shut, fine := risingDays(r.Shut)
	extra, good := risingDays(r.Extra)
	if !fine || !good {
		return shop{}, 0, api.ErrRule
	}
	all, right := merged(shut, extra)
	if !right {
		return shop{}, 0, api.ErrRule
	}
	day, e := Days(d)
	return shop{r.Days, all}, day, e
}

// along answers what says, day by day from this one on, whether the shop is open.
func (s shop) along(day, step int) func() bool {
	left := slices.Clone(s.special)
	if step < 0 {
		slices.Reverse(left)
	}
	return func() bool {
		for len(left) > 0 && (left[0].day-day)*step < 0 {
			left = left[1:]
		}
		open := s.week[weekday(day)]
		if len(left) > 0 && left[0].day == day {
			open = left[0].open
		}
		day += step
		return open
	}
}

// risingDays answers the days' numbers, if all are days and they rise.
func risingDays(dates []api.Date) ([]int, bool) {
	if len(dates) > api.MaxDates {
		return nil, false
	}
	days := make([]int, 0, len(dates))
	for i, d := range dates {
		n, e := Days(d)
		if e != api.OK || i > 0 && n <= days[i-1] {
			return nil, false
		}
		days = append(days, n)
	}
	return days, true
}

// merged lays the two lists into one, if no day stands in both.
func merged(shut, extra []int) ([]special, bool) {
	all := make([]special, 0, len(shut)+len(extra))
	for len(shut)+len(extra) > 0 {
		switch {
		case len(extra) == 0 || len(shut) > 0 && shut[0] < extra[0]:
			all = append(all, special{shut[0], false})
			shut = shut[1:]
		case len(shut) == 0 || extra[0] < shut[0]:
			all = append(all, special{extra[0], true})
			extra = extra[1:]
		default:
			return nil, false
		}
	}
	return all, true
}
