package cal

import (
	"strings"

	"larder/api"
)

const (
	minuteSeconds = 60
	hourMinutes   = 60
	hourSeconds   = hourMinutes * minuteSeconds
	daySeconds    = 24 * hourSeconds
)

// ParseInstant reads a date, a time and a zone: the second; else an error and its place.
func ParseInstant(text string) (int, api.Errno, int) {
	if len(text) > api.MaxStamp {
		return 0, api.ErrLong, 0
	}
	date, rest, timed := strings.Cut(text, "T")
	d, e, place := ParseDate(date)
	if e != api.OK {
		return 0, e, place
	}
	if !timed {
		return 0, api.ErrTime, len(text)
	}
	extended := strings.Contains(date, "-")
	size := strings.IndexAny(rest, "Z+-")
	zoned := size >= 0
	if !zoned {
		size = len(rest)
	}
	clock, e, place := readTime(rest[:size], extended)
	if e != api.OK {
		return 0, e, len(date) + 1 + place
	}
	if !zoned {
		return 0, api.ErrZone, len(text)
	}
	zone, e, place := readZone(rest[size:], extended)
	if e != api.OK {
		return 0, e, len(date) + 1 + size + place
	}
	second := daySeconds*numberOf(d) + clock - minuteSeconds*zone
	if !isInstant(second) {
		return 0, api.ErrRange, 0
	}
	return second, api.OK, 0
}

// PrintInstant writes an instant as the clocks of a zone show it; zone is in minutes.
func PrintInstant(second, zone int) (string, api.Errno) {
	if !isInstant(second) {
		return "", api.ErrRange
	}
	if zone < -api.MaxZone || zone > api.MaxZone {
		return "", api.ErrZone
	}
	shown := second + minuteSeconds*zone
	if !isInstant(shown) {
		return "", api.ErrRange
	}
	date, e := PrintDate(dateOf(shown/daySeconds), api.DateDay)
	return date + "T" + clockText(shown%daySeconds) + zoneText(zone), e
}

func isInstant(second int) bool { return second >= 0 && second <= api.MaxSecond }

// readTime answers the seconds from 0 o'clock on; 24 o'clock is the next day's 0 o'clock of itself.
func readTime(text string, extended bool) (int, api.Errno, int) {
	shapes := []string{"dd", "dddd", "dddddd"}
	if extended {
		shapes = []string{"dd", "dd:dd", "dd:dd:dd"}
	}
	if which, place := fit(text, shapes...); which < 0 {
		return 0, api.ErrTime, place
	}
	second := 0
	place := refused(text,
		part{2, func(n int) bool {
			second = hourSeconds * n
			return n <= 23 || n == 24 && strings.Trim(text[2:], "0:") == ""
		}},
		part{2, func(n int) bool { second += minuteSeconds * n; return n <= 59 }},
		part{2, func(n int) bool { second += n; return n <= 59 }},
	)
	if place >= 0 {
		return 0, api.ErrTime, place
	}
	return second, api.OK, 0
}

// readZone answers by how many minutes a written time is ahead of Z.
func readZone(text string, extended bool) (int, api.Errno, int) {
	shapes := []string{"Z", "+dd", "-dd", "+dddd", "-dddd"}
	if extended {
		shapes = []string{"Z", "+dd", "-dd", "+dd:dd", "-dd:dd"}
	}
	if which, place := fit(text, shapes...); which < 0 {
		return 0, api.ErrZone, place
	}
	zone := 0
	place := refused(text,
		part{2, func(n int) bool { zone = hourMinutes * n; return n <= 23 }},
		part{2, func(n int) bool { zone += n; return n <= 59 }},
	)
	switch {
	case place >= 0:
		return 0, api.ErrZone, place
	case text[0] != '-':
		return zone, api.OK, 0
	case zone == 0:
		return 0, api.ErrZone, 0
	}
	return -zone, api.OK, 0
}

func clockText(second int) string {
	minute := second / minuteSeconds
	return padded(minute/hourMinutes, 2) + ":" + padded(minute%hourMinutes, 2) + ":" + padded(second%minuteSeconds, 2)
}

func zoneText(zone int) string {
	sign := "+"
	switch {
	case zone == 0:
		return "Z"
	case zone < 0:
		sign, zone = "-", -zone
	}
	return sign + padded(zone/hourMinutes, 2) + ":" + padded(zone%hourMinutes, 2)
}
