package cal

import "larder/api"

// ParseDate reads a date in any of its six forms: the day; else an error and its place.
func ParseDate(text string) (api.Date, api.Errno, int) {
	if len(text) > api.MaxStamp {
		return api.Date{}, api.ErrLong, 0
	}
	form, place := fit(text, dateShapes()...)
	switch form {
	case api.DateDay, api.DateDayBasic:
		return readDay(text)
	case api.DateYear, api.DateYearBasic:
		return readDayOfYear(text)
	case api.DateWeek, api.DateWeekBasic:
		return readDayOfWeek(text)
	}
	return api.Date{}, api.ErrText, place
}

// PrintDate writes a day in one of the six forms.
func PrintDate(d api.Date, form int) (string, api.Errno) {
	if !Valid(d) {
		return "", api.ErrDate
	}
	year := padded(d.Year, 4)
	switch form {
	case api.DateDay:
		return year + "-" + padded(d.Month, 2) + "-" + padded(d.Day, 2), api.OK
	case api.DateDayBasic:
		return year + padded(d.Month, 2) + padded(d.Day, 2), api.OK
	case api.DateYear:
		return year + "-" + dayOfYear(d), api.OK
	case api.DateYearBasic:
		return year + dayOfYear(d), api.OK
	case api.DateWeek:
		return weekText(d, "-")
	case api.DateWeekBasic:
		return weekText(d, "")
	}
	return "", api.ErrArg
}

// dateShapes has the shapes in the order of the forms' numbers.
func dateShapes() []string {
	return []string{"dddd-dd-dd", "dddddddd", "dddd-ddd", "ddddddd", "dddd-Wdd-d", "ddddWddd"}
}

func readDay(text string) (api.Date, api.Errno, int) {
	var d api.Date
	place := refused(text,
		part{4, func(n int) bool { d.Year = n; return true }},
		part{2, func(n int) bool { d.Month = n; return n >= 1 && n <= yearMonths }},
		part{2, func(n int) bool { d.Day = n; return Valid(d) }},
	)
	if place >= 0 {
		return api.Date{}, api.ErrDate, place
	}
	return d, api.OK, 0
}

func readDayOfYear(text string) (api.Date, api.Errno, int) {
	var year, day int
	place := refused(text,
		part{4, func(n int) bool { year = n; return true }},
		part{3, func(n int) bool { day = n; return n >= 1 && n <= yearDays(year) }},
	)
	if place >= 0 {
		return api.Date{}, api.ErrDate, place
	}
	return dateOf(yearStart(year) + day - 1), api.OK, 0
}

func readDayOfWeek(text string) (api.Date, api.Errno, int) {
	var w api.Week
	place := refused(text,
		part{4, func(n int) bool { w.Year = n; return true }},
		part{2, func(n int) bool { w.Week = n; return n >= 1 && n <= yearWeeks(w.Year) }},
		part{1, func(n int) bool { w.Day = n; return n >= 1 && n <= weekDays }},
	)
	if place >= 0 {
		return api.Date{}, api.ErrDate, place
	}
	d, e := FromWeek(w)
	return d, e, 0
}

func dayOfYear(d api.Date) string { return padded(monthStart(d.Year, d.Month)+d.Day, 3) }

// weekText writes a day by its week, with a text between its parts; years have no sign there.
func weekText(d api.Date, between string) (string, api.Errno) {
	w := weekOf(d)
	if w.Year < 0 {
		return "", api.ErrRange
	}
	return padded(w.Year, 4) + between + "W" + padded(w.Week, 2) + between + padded(w.Day, 1), api.OK
}
