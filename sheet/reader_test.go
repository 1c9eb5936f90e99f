package sheet_test

import (
	"fmt"
	"math/rand"
	"strings"
	"testing"

	"larder/sheet"
)

// wantPieces feeds a text in pieces and holds every answer against the slow reader: which rows, and the fault with the byte that shows it.
func wantPieces(t *testing.T, text string, cuts []int) {
	t.Helper()
	slowly := readSlowly(text)
	name := short(text) + " in pieces " + short(fmt.Sprint(cuts))
	r := sheet.NewReader()
	from, rows := 0, 0
	for _, to := range append(cuts, len(text)) {
		got, err := r.Feed([]byte(text[from:to]))
		want := fault{}
		if slowly.shows < to {
			want = slowly.fault
		}
		over := slowly.overBy(to)
		if told(err) != want || !same(got, slowly.rows[rows:over]) {
			t.Fatalf("%s: up to %d %d rows, %v, want %v", name, to, len(got), told(err), want)
		}
		from, rows = to, over
	}
	var last [][]string
	if slowly.fault.err == nil {
		last = slowly.rows[rows:]
	}
	if got, err := r.Close(); told(err) != slowly.fault || !same(got, last) {
		t.Fatalf("%s: Close %d rows, %v, want %v", name, len(got), told(err), slowly.fault)
	}
	wantDone(t, r)
}

func wantDone(t *testing.T, r *sheet.Reader) {
	t.Helper()
	for _, p := range [][]byte{nil, []byte("a\r\n"), []byte("\n")} {
		rows, err := r.Feed(p)
		if len(rows) != 0 {
			t.Errorf("Feed behind Close: %q", rows)
		}
		wantFault(t, "Feed behind Close", err, fault{sheet.ErrDone, 0, 0})
		rows, err = r.Close()
		if len(rows) != 0 {
			t.Errorf("Close behind Close: %q", rows)
		}
		wantFault(t, "Close behind Close", err, fault{sheet.ErrDone, 0, 0})
	}
}

func TestP4_4ShortTextsInAllPieces(t *testing.T) {
	eachText("a,\"\r\n\x01", 5, func(text string) {
		for set := range 1 << max(0, len(text)-1) {
			var cuts []int
			for i := 1; i < len(text); i++ {
				if set>>(i-1)&1 == 1 {
					cuts = append(cuts, i)
				}
			}
			wantPieces(t, text, cuts)
		}
	})
}

func pieces(text string, size int) []int {
	var cuts []int
	for at := size; at < len(text); at += size {
		cuts = append(cuts, at)
	}
	return cuts
}

func TestP4_4PiecesOfEverySize(t *testing.T) {
	text := "a,\"b\r\n\"\"c\"\r\n\"\",\r\n\"x,\",\"\n\"\r\n1,\"2\"\r\nlast,one"
	for _, behind := range []string{"", "\r\n", "\r", "\rx", "\n", "\"", ",", ",\r\n", "\r\n\"open"} {
		whole := text + behind
		for size := 1; size <= len(whole); size++ {
			wantPieces(t, whole, pieces(whole, size))
		}
	}
}

func TestP4_4LongTextsInPieces(t *testing.T) {
	full := strings.Repeat("x", 4096)
	for _, text := range []string{
		oneCell(262144), oneCell(262145), oneCell(300000), oneCell(262143) + "\r\n", oneCell(262142) + "\r\n", oneCell(262141) + "\r\nx\r\n",
		strings.Repeat("\r\n", 4096), strings.Repeat("\r\n", 4097), full + "," + full, full + "\r\n" + full + "x\r\n",
	} {
		for _, size := range []int{1, 7, 128, 4001, 65536, 262143, 262144} {
			wantPieces(t, text, pieces(text, size))
		}
	}
}

func TestP4_4SheetsOfChanceInPieces(t *testing.T) {
	r := rand.New(rand.NewSource(44))
	for i := range 20000 {
		text := sheetText(r)
		if i%3 > 0 {
			text = spoil(r, text)
		}
		var cuts []int
		for at := r.Intn(4); at <= len(text); at += r.Intn(6) {
			cuts = append(cuts, at)
			if len(cuts) > 100 {
				break
			}
		}
		wantPieces(t, text, cuts)
	}
}

func TestP4_4WhenAFaultShows(t *testing.T) {
	full := strings.Repeat("x", 4096)
	for _, x := range []struct {
		ahead, byte string
		want        fault
	}{
		{"a", "\n", fault{sheet.ErrLine, 1, 1}},
		{"a\r", "b", fault{sheet.ErrLine, 1, 1}},
		{"a\r", "\r", fault{sheet.ErrLine, 1, 1}},
		{"\"a\"", "\n", fault{sheet.ErrLine, 1, 3}},
		{"a", "\"", fault{sheet.ErrQuote, 1, 1}},
		{"\"a\"", "b", fault{sheet.ErrQuote, 1, 3}},
		{"a", "\t", fault{sheet.ErrByte, 1, 1}},
		{"\"a", "\x00", fault{sheet.ErrByte, 1, 2}},
		{full, "x", fault{sheet.ErrCell, 1, 4096}},
		{"\"" + full + "\"", "\"", fault{sheet.ErrCell, 1, 4098}},
		{strings.Repeat(",", 63), ",", fault{sheet.ErrCells, 1, 63}},
		{strings.Repeat("\r\n", 4096), "x", fault{sheet.ErrRows, 4097, 0}},
		{strings.Repeat("\r\n", 4096), "\r", fault{sheet.ErrRows, 4097, 0}},
		{"a\r\nb,c\r", "\n", fault{sheet.ErrRagged, 2, 3}},
		{"a,b\r\nc\r", "\n", fault{sheet.ErrRagged, 2, 1}},
		{oneCell(262144), "x", fault{sheet.ErrLong, 66, 2014}},
		{oneCell(262143) + "\r", "x", fault{sheet.ErrLong, 66, 2014}},
		{oneCell(262143) + "\r", "\n", fault{sheet.ErrLong, 66, 2014}},
	} {
		r := sheet.NewReader()
		_, err := r.Feed([]byte(x.ahead))
		wantFault(t, short(x.ahead), err, fault{})
		for _, p := range []string{x.byte, "", "a\r\n", "\x00"} {
			rows, err := r.Feed([]byte(p))
			if len(rows) != 0 {
				t.Errorf("%s, %q: %q", short(x.ahead), p, rows)
			}
			wantFault(t, short(x.ahead), err, x.want)
		}
		rows, err := r.Close()
		if len(rows) != 0 {
			t.Errorf("%s: Close %q", short(x.ahead), rows)
		}
		wantFault(t, short(x.ahead)+", Close", err, x.want)
		wantDone(t, r)
	}
}

func TestP4_4RowsAreToldBesideTheFault(t *testing.T) {
	r := sheet.NewReader()
	rows, err := r.Feed([]byte("a\r\nb\r\nc\x00d\r\n"))
	if !same(rows, [][]string{{"a"}, {"b"}}) {
		t.Errorf("%q", rows)
	}
	wantFault(t, "Feed", err, fault{sheet.ErrByte, 3, 1})
	rows, err = r.Feed(nil)
	if len(rows) != 0 {
		t.Errorf("again: %q", rows)
	}
	wantFault(t, "again", err, fault{sheet.ErrByte, 3, 1})
}

func TestP4_4TheEndOfTheText(t *testing.T) {
	for _, x := range []struct {
		text string
		rows [][]string
		want fault
	}{
		{"", nil, fault{}},
		{"a\r\n", nil, fault{}},
		{"a", [][]string{{"a"}}, fault{}},
		{"a,", [][]string{{"a", ""}}, fault{}},
		{"\"a\"", [][]string{{"a"}}, fault{}},
		{"a\r\n\"\"", [][]string{{""}}, fault{}},
		{"\"a", nil, fault{sheet.ErrOpen, 1, 0}},
		{"a,\"b\n\n", nil, fault{sheet.ErrOpen, 1, 2}},
		{"a\r", nil, fault{sheet.ErrLine, 1, 1}},
		{"a,b\r\nc", nil, fault{sheet.ErrRagged, 2, 1}},
		{"a\r\nb,", nil, fault{sheet.ErrRagged, 2, 2}},
		{oneCell(262144), [][]string{{strings.Repeat("x", 2014)}}, fault{}},
	} {
		r := sheet.NewReader()
		if _, err := r.Feed([]byte(x.text)); err != nil {
			t.Errorf("%s: %v", short(x.text), err)
		}
		rows, err := r.Close()
		if !same(rows, x.rows) {
			t.Errorf("%s: %q, want %q", short(x.text), rows, x.rows)
		}
		wantFault(t, short(x.text), err, x.want)
		wantDone(t, r)
	}
}

func TestP4_4ClosedAtOnce(t *testing.T) {
	for _, r := range []*sheet.Reader{sheet.NewReader(), {}} {
		if rows, err := r.Close(); len(rows) != 0 || err != nil {
			t.Errorf("%q, %v", rows, err)
		}
		wantDone(t, r)
	}
}

func TestP4_4NothingFed(t *testing.T) {
	r := sheet.NewReader()
	for _, p := range [][]byte{nil, {}, nil} {
		if rows, err := r.Feed(p); len(rows) != 0 || err != nil {
			t.Errorf("%q, %v", rows, err)
		}
	}
	if rows, err := r.Feed([]byte("a\r\n")); !same(rows, [][]string{{"a"}}) || err != nil {
		t.Errorf("%q, %v", rows, err)
	}
}

func TestP4_4NilReader(t *testing.T) {
	var r *sheet.Reader
	for _, p := range []string{"", "a\r\n", "\x00"} {
		if rows, err := r.Feed([]byte(p)); len(rows) != 0 || err != nil {
			t.Errorf("Feed(%q): %q, %v", p, rows, err)
		}
		if rows, err := r.Close(); len(rows) != 0 || err != nil {
			t.Errorf("Close: %q, %v", rows, err)
		}
	}
}

func TestR1ReaderThatNobodyMade(t *testing.T) {
	var r sheet.Reader
	rows, err := r.Feed([]byte("a,b\r\nc"))
	if !same(rows, [][]string{{"a", "b"}}) || err != nil {
		t.Errorf("%q, %v", rows, err)
	}
	_, err = r.Close()
	wantFault(t, "Close", err, fault{sheet.ErrRagged, 2, 1})
}

func TestR5ReadersSideBySide(t *testing.T) {
	a, b := sheet.NewReader(), sheet.NewReader()
	a.Feed([]byte("a,\"b"))
	b.Feed([]byte("c\r\nd\x00"))
	rows, err := a.Feed([]byte("\"\r\n"))
	if !same(rows, [][]string{{"a", "b"}}) || err != nil {
		t.Errorf("%q, %v", rows, err)
	}
	_, err = b.Close()
	wantFault(t, "the other", err, fault{sheet.ErrByte, 2, 1})
	if rows, err := a.Close(); len(rows) != 0 || err != nil {
		t.Errorf("%q, %v", rows, err)
	}
}
