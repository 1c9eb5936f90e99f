package sheet_test

import (
	"errors"
	"fmt"
	"slices"
	"strings"
	"testing"

	"larder/api"
	"larder/sheet"
)

func same(a, b [][]string) bool { return slices.EqualFunc(a, b, slices.Equal[[]string]) }

func sameCells(a, b [][]api.Cell) bool { return slices.EqualFunc(a, b, slices.Equal[[]api.Cell]) }

func variables() []error {
	return []error{
		sheet.ErrOpen, sheet.ErrQuote, sheet.ErrLine, sheet.ErrByte, sheet.ErrCell, sheet.ErrCells, sheet.ErrRows, sheet.ErrRagged, sheet.ErrDone, sheet.ErrLong,
		sheet.ErrColumns, sheet.ErrMissing, sheet.ErrTwice, sheet.ErrEmpty, sheet.ErrNumber, sheet.ErrCents, sheet.ErrDate, sheet.ErrCode, sheet.ErrYes, sheet.ErrValue,
	}
}

// A fault is what a test awaits: nothing, or one of the variables at a place.
type fault struct {
	err          error
	line, column int
}

func (f fault) String() string { return fmt.Sprintf("%v, %d, %d", f.err, f.line, f.column) }

func told(err error) fault {
	if f, ok := err.(*sheet.Fault); ok && f != nil {
		for _, v := range variables() {
			if errors.Is(err, v) {
				return fault{v, f.Line, f.Column}
			}
		}
	}
	return fault{err: err}
}

func wantFault(t *testing.T, name string, err error, want fault) {
	t.Helper()
	if got := told(err); got != want {
		t.Errorf("%s: %v, want %v", name, got, want)
	}
}

func short(text string) string {
	if len(text) > 40 {
		return fmt.Sprintf("%q.. of %d bytes", text[:40], len(text))
	}
	return fmt.Sprintf("%q", text)
}

func cellMayHave(c byte) bool { return strings.IndexByte("\t\n\r", c) >= 0 || c >= 32 && c != 127 }

// A slow reader of sheets goes over the whole text by places, as section 4.1 is written.
type slow struct {
	text  string
	at    int // the place of the next byte
	rows  [][]string
	ends  []int // behind which byte each row is over by its LF
	err   error
	place int // of the fault's byte
	shows int // the place of the byte with which it shows
}

func (s *slow) ended() bool { return s.at >= len(s.text) }

func (s *slow) fail(err error, place, shows int) bool {
	s.err, s.place, s.shows = err, place, shows
	return false
}

func (s *slow) cell() (string, bool) {
	if !s.ended() && s.text[s.at] == '"' {
		return s.quoted()
	}
	from := s.at
	for ; !s.ended() && s.text[s.at] != ',' && s.text[s.at] != '\r'; s.at++ {
		switch c := s.text[s.at]; {
		case c == '\n':
			return "", s.fail(sheet.ErrLine, s.at, s.at)
		case c == '"':
			return "", s.fail(sheet.ErrQuote, s.at, s.at)
		case c == '\t' || !cellMayHave(c):
			return "", s.fail(sheet.ErrByte, s.at, s.at)
		case s.at-from == 4096:
			return "", s.fail(sheet.ErrCell, s.at, s.at)
		}
	}
	return s.text[from:s.at], true
}

func (s *slow) quoted() (string, bool) {
	opened, cell := s.at, ""
	for s.at++; ; s.at++ {
		if s.ended() {
			return "", s.fail(sheet.ErrOpen, opened, len(s.text))
		}
		if s.text[s.at] == '"' {
			if !strings.HasPrefix(s.text[s.at:], `""`) {
				break
			}
			s.at++
		}
		if !cellMayHave(s.text[s.at]) {
			return "", s.fail(sheet.ErrByte, s.at, s.at)
		}
		if len(cell) == 4096 {
			return "", s.fail(sheet.ErrCell, s.at, s.at)
		}
		cell += s.text[s.at : s.at+1]
	}
	s.at++
	if s.ended() {
		return cell, true
	}
	switch s.text[s.at] {
	case ',', '\r':
		return cell, true
	case '\n':
		return "", s.fail(sheet.ErrLine, s.at, s.at)
	}
	return "", s.fail(sheet.ErrQuote, s.at, s.at)
}

func (s *slow) row() bool {
	if len(s.rows) == 4096 {
		return s.fail(sheet.ErrRows, s.at, s.at)
	}
	var cells []string
	for {
		cell, ok := s.cell()
		if !ok {
			return false
		}
		cells = append(cells, cell)
		if s.ended() || s.text[s.at] == '\r' {
			break
		}
		if len(cells) == 64 {
			return s.fail(sheet.ErrCells, s.at, s.at)
		}
		s.at++
	}
	from := s.at
	if !s.ended() {
		if !strings.HasPrefix(s.text[s.at:], "\r\n") {
			return s.fail(sheet.ErrLine, s.at, s.at+1)
		}
		s.at += 2
	}
	if len(s.rows) > 0 && len(cells) != len(s.rows[0]) {
		return s.fail(sheet.ErrRagged, from, from+1)
	}
	s.rows = append(s.rows, cells)
	if s.at > from {
		s.ends = append(s.ends, s.at)
	}
	return true
}

// A reading is what the slow reader has to say of a text: its rows, those ahead of a fault if it has one; how many bytes each of them is over behind; and with which byte the fault shows.
type reading struct {
	rows  [][]string
	ends  []int
	fault fault
	shows int
}

// overBy is how many rows the first n bytes end by an LF.
func (r reading) overBy(n int) int {
	count := 0
	for _, end := range r.ends {
		if end <= n {
			count++
		}
	}
	return count
}

func readSlowly(text string) reading {
	s := slow{text: text}
	for !s.ended() && s.row() {
	}
	if len(text) > 262144 && (s.err == nil || s.shows >= 262144) {
		s.fail(sheet.ErrLong, 262144, 262144)
	}
	r := reading{s.rows, s.ends, fault{}, min(s.shows, len(text))}
	if s.err == sheet.ErrLong {
		r.ends = r.ends[:r.overBy(262144)]
		r.rows = r.rows[:len(r.ends)]
	}
	if s.err != nil {
		ahead := text[:s.place]
		r.fault = fault{s.err, 1 + strings.Count(ahead, "\n"), s.place - 1 - strings.LastIndexByte(ahead, '\n')}
	}
	return r
}

// oneCell is a sheet's text of size bytes, of rows of one cell each, the last one without its CR LF.
func oneCell(size int) string {
	full := strings.Repeat("x", 4000) + "\r\n"
	return strings.Repeat(full, size/4002) + strings.Repeat("x", size%4002)
}

// eachText goes over all texts of at most so many bytes of an alphabet.
func eachText(alphabet string, most int, see func(text string)) {
	var more func(text string)
	more = func(text string) {
		see(text)
		if len(text) < most {
			for i := range len(alphabet) {
				more(text + alphabet[i:i+1])
			}
		}
	}
	more("")
}
