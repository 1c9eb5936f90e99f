package sheet_test

import (
	"cmp"
	"math/rand"
	"slices"
	"strings"
	"testing"

	"larder/api"
	"larder/sheet"
)

// sheetRows are rows as chance will have them.
func sheetRows(r *rand.Rand) [][]string {
	letters := []string{"a", "b", " ", "é", "\xff", ",", "\"", "\r", "\n", "\t", "0"}
	width := 1 + r.Intn(4)
	var rows [][]string
	for range r.Intn(6) {
		var row []string
		for range width {
			cell := ""
			for range r.Intn(5) {
				cell += letters[r.Intn(len(letters))]
			}
			row = append(row, cell)
		}
		rows = append(rows, row)
	}
	return rows
}

func TestP4_7PrintedAndRead(t *testing.T) {
	r := rand.New(rand.NewSource(47))
	full := strings.Repeat("\"", 4096)
	sheets := [][][]string{nil, {{""}}, {{full, "a"}, {"b", full}}, slices.Repeat([][]string{{""}}, 4096), {slices.Repeat([]string{","}, 64)}}
	for range 20000 {
		sheets = append(sheets, sheetRows(r))
	}
	for _, rows := range sheets {
		text, err := sheet.Print(rows)
		if err != nil {
			t.Fatalf("%q: %v", rows, err)
		}
		if back, err := sheet.Parse(text); err != nil || !same(back, rows) {
			t.Fatalf("%q: %s, read as %q, %v", rows, short(text), back, err)
		}
	}
}

// needless says whether a text without faults has a cell in quotes that need not be.
func needless(text string) bool { return text != printSlowly(readSlowly(text).rows) }

func TestP4_7ReadAndPrinted(t *testing.T) {
	itself := 0
	eachText("a,\"\r\n", 8, func(text string) {
		rows, err := sheet.Parse(text)
		if err != nil {
			return
		}
		again, err := sheet.Print(rows)
		if err != nil {
			t.Fatalf("%q: %v", text, err)
		}
		if back, err := sheet.Parse(again); err != nil || !same(back, rows) {
			t.Fatalf("%q: printed %q, read as %q, %v", text, again, back, err)
		}
		if again == text {
			itself++
		} else if strings.HasSuffix(text, "\r\n") && !needless(text) {
			t.Fatalf("%q: printed %q", text, again)
		}
	})
	if itself < 100 {
		t.Errorf("only %d texts are printed as they stand", itself)
	}
}

func TestP4_7LongTexts(t *testing.T) {
	for size, want := range map[int]error{262142: nil, 262143: sheet.ErrLong, 262144: sheet.ErrLong} {
		rows, err := sheet.Parse(oneCell(size))
		if err != nil {
			t.Fatalf("%d bytes: %v", size, err)
		}
		if _, err := sheet.Print(rows); told(err) != (fault{err: want}) {
			t.Errorf("%d bytes: %v", size, err)
		}
	}
}

func TestP4_7ShownAndTyped(t *testing.T) {
	r := rand.New(rand.NewSource(477))
	right := map[int][]api.Cell{}
	for kind, cells := range rightCells() {
		right[kind] = []api.Cell{{}}
		for cell := range cells {
			if len(cell.Text) < 100 {
				right[kind] = append(right[kind], cell)
			}
		}
		slices.SortFunc(right[kind], func(a, b api.Cell) int {
			return cmp.Or(strings.Compare(a.Text, b.Text), cmp.Compare(a.Num, b.Num), cmp.Compare(a.Kind, b.Kind))
		})
	}
	for range 3000 {
		var columns []api.Column
		for _, name := range []string{"a", "b,", "\"", "\r\n", "e"}[:1+r.Intn(5)] {
			columns = append(columns, api.Column{Name: name, Kind: 1 + r.Intn(6)})
		}
		var cells [][]api.Cell
		for range r.Intn(5) {
			var row []api.Cell
			for _, c := range columns {
				row = append(row, right[c.Kind][r.Intn(len(right[c.Kind]))])
			}
			cells = append(cells, row)
		}
		rows, err := sheet.Shown(cells, columns)
		if err != nil {
			t.Fatalf("%v: %v", cells, err)
		}
		wantTyped(t, "shown", rows, columns, cells, fault{})
	}
}

func TestP4_8HowBytesAreCut(t *testing.T) {
	r := rand.New(rand.NewSource(48))
	for i := range 20000 {
		text := sheetText(r)
		if i%3 > 0 {
			text = spoil(r, text)
		}
		want, wrong := sheet.Parse(text)
		reader := sheet.NewReader()
		var rows [][]string
		for at := 0; at < len(text); {
			to := min(len(text), at+r.Intn(5))
			got, _ := reader.Feed([]byte(text[at:to]))
			rows = append(rows, got...)
			at = to
		}
		last, err := reader.Close()
		rows = append(rows, last...)
		if told(err) != told(wrong) || wrong == nil && !same(rows, want) {
			t.Fatalf("%q: %q, %v, want %q, %v", text, rows, err, want, wrong)
		}
		if slowly := readSlowly(text); !same(rows, slowly.rows) {
			t.Fatalf("%q: %q ahead of the fault, want %q", text, rows, slowly.rows)
		}
	}
}

// byteAt is the place in a text of a line and a column.
func byteAt(text string, line, column int) int {
	at := 0
	for range line - 1 {
		at += strings.IndexByte(text[at:], '\n') + 1
	}
	return at + column
}

func wantNoFaultAhead(t *testing.T, text string) {
	t.Helper()
	_, err := sheet.Parse(text)
	if err == nil {
		return
	}
	f := told(err)
	ahead := text[:byteAt(text, f.line, f.column)]
	_, err = sheet.Parse(ahead)
	got := told(err)
	switch got.err {
	case nil, sheet.ErrOpen:
		return
	case sheet.ErrRagged:
		if byteAt(ahead, got.line, got.column) == len(ahead) {
			return
		}
	case sheet.ErrLine:
		if f.err == sheet.ErrLong && byteAt(ahead, got.line, got.column) == len(ahead)-1 {
			return
		}
	}
	t.Errorf("%s has %v, ahead of it %v", short(text), f, got)
}

func TestP4_9TheFirstFault(t *testing.T) {
	eachText("a,\"\r\n\x01", 6, func(text string) { wantNoFaultAhead(t, text) })
	full := strings.Repeat("x", 4096)
	for _, text := range []string{
		full + "x", "\"" + full + "x", strings.Repeat(",", 64), strings.Repeat("\r\n", 4097),
		oneCell(262145), oneCell(262143) + "\rx", oneCell(262143) + "\r\n", oneCell(262100) + "\r\n" + strings.Repeat(",", 60), oneCell(262100) + "\r\n\"" + full,
	} {
		if _, err := sheet.Parse(text); err == nil {
			t.Errorf("%s: no fault", short(text))
		}
		wantNoFaultAhead(t, text)
	}
}

// moved lays the cells of rows at other places, other cells between them.
func moved(rows [][]string, places []int, width int) [][]string {
	var l [][]string
	for _, row := range rows {
		to := slices.Repeat([]string{"-"}, width)
		for i, cell := range row {
			to[places[i]] = cell
		}
		l = append(l, to)
	}
	return l
}

func TestP4_10ColumnsAreNamed(t *testing.T) {
	columns := []api.Column{{Name: "n", Kind: api.CellInt, Must: true}, {Name: "d", Kind: api.CellDate}, text("t")}
	head := []string{"n", "d", "t"}
	for _, rows := range [][][]string{
		{head}, {head, {"1", "2000-01-01", "x"}, {"2", "", ""}}, {head, {"1", "", ""}, {"", "x", ""}}, {head, {"1", "x", "y"}}, {head, {"x", "x", "x"}},
	} {
		want, wrong := sheet.Typed(rows, columns)
		for width := 3; width <= 5; width++ {
			for a := range width {
				for b := range width {
					for c := range width {
						if a == b || b == c || a == c {
							continue
						}
						places := []int{a, b, c}
						f := told(wrong)
						if f.err != nil {
							f.column = places[f.column]
						}
						wantTyped(t, "moved", moved(rows, places, width), columns, want, f)
					}
				}
			}
		}
	}
}
