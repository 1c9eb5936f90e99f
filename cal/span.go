package cal

import (
	"strconv"
	"strings"

	"larder/api"
)

const (
	spanMarks  = "WYMDHMS" // the letters behind a span's numbers, weeks ahead of all since nothing else stands beside them
	timeMarks  = 4         // the place of the first one that stands behind T
	partDigits = 9
)

// ParseSpan reads a span; else it answers an error and its place.
func ParseSpan(text string) (api.Span, api.Errno, int) {
	if len(text) > api.MaxStamp {
		return api.Span{}, api.ErrLong, 0
	}
	s, read := readSpan(text)
	if read < len(text) || read == 0 || !strings.Contains(spanMarks, text[read-1:]) {
		return api.Span{}, api.ErrSpan, read
	}
	return s, api.OK, 0
}

// PrintSpan writes a span, without what is 0.
func PrintSpan(s api.Span) (string, api.Errno) {
	if !isSpan(s) {
		return "", api.ErrSpan
	}
	days := marked(s.Years, "Y") + marked(s.Months, "M") + marked(s.Weeks, "W") + marked(s.Days, "D")
	clock := marked(s.Hours, "H") + marked(s.Minutes, "M") + marked(s.Seconds, "S")
	switch {
	case clock != "":
		return "P" + days + "T" + clock, api.OK
	case days != "":
		return "P" + days, api.OK
	}
	return "PT0S", api.OK
}

// AddSpan answers the instant that lies a span behind another one, or ahead of it.
func AddSpan(second int, s api.Span, back bool) (int, api.Errno) {
	if !isInstant(second) {
		return 0, api.ErrRange
	}
	if !isSpan(s) {
		return 0, api.ErrSpan
	}
	months := yearMonths*s.Years + s.Months
	seconds := daySeconds*(weekDays*s.Weeks+s.Days) + hourSeconds*s.Hours + minuteSeconds*s.Minutes + s.Seconds
	if back {
		months, seconds = -months, -seconds
	}
	day, e := addMonths(second/daySeconds, months)
	if e != api.OK {
		return 0, e
	}
	sum := daySeconds*day + second%daySeconds + seconds
	if !isInstant(sum) {
		return 0, api.ErrRange
	}
	return sum, api.OK
}

// addMonths answers the number of the day with the same day of the month, or of the month's last one.
func addMonths(day, months int) (int, api.Errno) {
	d := dateOf(day)
	month := yearMonths*d.Year + d.Month - 1 + months
	if month < 0 || month >= yearMonths*(lastYear+1) {
		return 0, api.ErrRange
	}
	d.Year, d.Month = month/yearMonths, month%yearMonths+1
	d.Day = min(d.Day, monthDays(d.Year, d.Month))
	return numberOf(d), api.OK
}

// readSpan reads as far as the text is how a span's text begins, and answers how far that is.
func readSpan(text string) (s api.Span, read int) {
	if !strings.HasPrefix(text, "P") {
		return s, 0
	}
	slots := [len(spanMarks)]*int{&s.Weeks, &s.Years, &s.Months, &s.Days, &s.Hours, &s.Minutes, &s.Seconds}
	next, end := 0, timeMarks // the marks that may stand behind the next number
	read = 1
	for read < len(text) {
		if text[read] == 'T' && end == timeMarks {
			next, end = timeMarks, len(spanMarks)
			read++
			continue
		}
		if next == end {
			break
		}
		digits := digitsAhead(text[read:])
		n, _ := strconv.Atoi(text[read : read+digits])
		read += digits
		if digits == 0 || read == len(text) {
			break
		}
		slot := strings.IndexByte(spanMarks[next:end], text[read])
		if slot < 0 {
			break
		}
		*slots[next+slot] = n
		next += slot + 1
		if text[read] == 'W' {
			next, end = len(spanMarks), len(spanMarks)
		}
		read++
	}
	return s, read
}

// digitsAhead answers how many digits stand at the beginning, counting no more than a span's number may have.
func digitsAhead(text string) int {
	n := 0
	for n < len(text) && n < partDigits && isDigit(text[n]) {
		n++
	}
	return n
}

// isSpan says whether the span has a text.
func isSpan(s api.Span) bool {
	for _, n := range [...]int{s.Years, s.Months, s.Weeks, s.Days, s.Hours, s.Minutes, s.Seconds} {
		if n < 0 || n > api.MaxPart {
			return false
		}
	}
	return s.Weeks == 0 || s == api.Span{Weeks: s.Weeks}
}

// marked writes a span's number with the letter behind it; nothing, if it is 0.
func marked(n int, mark string) string {
	if n == 0 {
		return ""
	}
	return strconv.Itoa(n) + mark
}
