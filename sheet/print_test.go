package sheet_test

import (
	"math/rand"
	"regexp"
	"slices"
	"strings"
	"testing"

	"larder/sheet"
)

func wantPrinted(t *testing.T, name string, rows [][]string, text string, want fault) {
	t.Helper()
	got, err := sheet.Print(rows)
	if got != text || told(err) != want {
		t.Errorf("%s: %s, %v, want %s, %v", name, short(got), told(err), short(text), want)
	}
}

func wantPrintFault(t *testing.T, name string, rows [][]string, err error, line, column int) {
	t.Helper()
	wantPrinted(t, name, rows, "", fault{err, line, column})
}

func printSlowly(rows [][]string) string {
	special := regexp.MustCompile("[,\"\r\n\t]")
	text := ""
	for _, row := range rows {
		var cells []string
		for _, cell := range row {
			if special.MatchString(cell) {
				cell = "\"" + strings.Join(strings.Split(cell, "\""), "\"\"") + "\""
			}
			cells = append(cells, cell)
		}
		text += strings.Join(cells, ",") + "\r\n"
	}
	return text
}

func TestP4_3Texts(t *testing.T) {
	for _, x := range []struct {
		rows [][]string
		text string
	}{
		{nil, ""},
		{[][]string{}, ""},
		{[][]string{{""}}, "\r\n"},
		{[][]string{{"", ""}, {"", ""}}, ",\r\n,\r\n"},
		{[][]string{{"a", "b c", " d "}}, "a,b c, d \r\n"},
		{[][]string{{"a,b", "\"", "\r", "\n", "\t"}}, "\"a,b\",\"\"\"\",\"\r\",\"\n\",\"\t\"\r\n"},
		{[][]string{{"\x80\xff", "é", "'", "~"}}, "\x80\xff,é,',~\r\n"},
		{[][]string{{"a\"\"b"}}, "\"a\"\"\"\"b\"\r\n"},
	} {
		wantPrinted(t, "Print", x.rows, x.text, fault{})
	}
}

func TestP4_3EveryByte(t *testing.T) {
	for c := range 256 {
		cell := string([]byte{byte(c)})
		for _, x := range []string{cell, "x" + cell, cell + "x", "x" + cell + "y"} {
			rows := [][]string{{"a", "b"}, {"c", x}}
			if cellMayHave(byte(c)) {
				wantPrinted(t, x, rows, printSlowly(rows), fault{})
			} else {
				wantPrintFault(t, x, rows, sheet.ErrByte, 2, 1)
			}
		}
	}
}

func TestP4_3SheetsOfChance(t *testing.T) {
	r := rand.New(rand.NewSource(43))
	for range 20000 {
		rows := readSlowly(sheetText(r)).rows
		wantPrinted(t, "chance", rows, printSlowly(rows), fault{})
	}
}

func TestP4_3Cells(t *testing.T) {
	full := strings.Repeat("x", 4096)
	wantPrinted(t, "full", [][]string{{full, "a"}}, full+",a\r\n", fault{})
	wantPrintFault(t, "one more", [][]string{{full, full + "x"}}, sheet.ErrCell, 1, 1)
	quotes := strings.Repeat("\"", 4096)
	wantPrinted(t, "quotes", [][]string{{quotes}}, "\""+quotes+quotes+"\"\r\n", fault{})
	wantPrintFault(t, "too long ahead of a wrong byte", [][]string{{"\x00" + full}}, sheet.ErrCell, 1, 0)
	wantPrintFault(t, "a wrong byte ahead of one too long", [][]string{{"\x00", full + "x"}}, sheet.ErrByte, 1, 0)
}

func TestP4_3CellsOfARow(t *testing.T) {
	row := slices.Repeat([]string{"x"}, 64)
	wantPrinted(t, "64", [][]string{row, row}, strings.Repeat(strings.Repeat("x,", 63)+"x\r\n", 2), fault{})
	more := append(slices.Clone(row), "x")
	wantPrintFault(t, "65", [][]string{more}, sheet.ErrCells, 1, 64)
	wantPrintFault(t, "65 of 64", [][]string{row, more}, sheet.ErrCells, 2, 64)
	wantPrintFault(t, "none", [][]string{{}}, sheet.ErrCells, 1, 0)
	wantPrintFault(t, "nil", [][]string{{"a"}, nil}, sheet.ErrCells, 2, 0)
	wantPrintFault(t, "200", [][]string{{"a"}, slices.Repeat([]string{"\x00"}, 200)}, sheet.ErrCells, 2, 64)
	wantPrintFault(t, "ragged", [][]string{{"a", "b"}, {"c", "d"}, {"\x00"}}, sheet.ErrRagged, 3, 0)
	wantPrintFault(t, "ragged by one more", [][]string{{"a"}, {"c", "d"}}, sheet.ErrRagged, 2, 0)
	wantPrintFault(t, "the row ahead", [][]string{{"a", "\x00"}, {}}, sheet.ErrByte, 1, 1)
}

func TestP4_3RowsOfASheet(t *testing.T) {
	rows := slices.Repeat([][]string{{""}}, 4096)
	wantPrinted(t, "4096", rows, strings.Repeat("\r\n", 4096), fault{})
	wantPrintFault(t, "4097", append(slices.Clone(rows), []string{""}), sheet.ErrRows, 4097, 0)
	wantPrintFault(t, "no cells behind", append(slices.Clone(rows), nil), sheet.ErrRows, 4097, 0)
	wantPrintFault(t, "ragged ahead", append(slices.Clone(rows[:4095]), []string{"", ""}, []string{""}), sheet.ErrRagged, 4096, 0)
	wantPrintFault(t, "a byte ahead", append(slices.Clone(rows[:4095]), []string{"\x00"}, []string{""}), sheet.ErrByte, 4096, 0)
}

func TestP4_3LongTexts(t *testing.T) {
	rows := slices.Repeat([][]string{{strings.Repeat("x", 4094)}}, 64)
	wantPrinted(t, "just so", rows, strings.Repeat(rows[0][0]+"\r\n", 64), fault{})
	last := slices.Clone(rows)
	last[63] = []string{rows[0][0] + "x"}
	wantPrintFault(t, "one more", last, sheet.ErrLong, 0, 0)
	last[63] = []string{strings.Repeat("x", 4092) + ","}
	wantPrintFault(t, "by its quotes", last, sheet.ErrLong, 0, 0)
	last[63] = []string{strings.Repeat("x", 4091) + ","}
	wantPrinted(t, "with its quotes", last, printSlowly(last), fault{})
	first := slices.Clone(rows)
	first[0] = []string{rows[0][0] + "x"}
	wantPrintFault(t, "one more in the first", first, sheet.ErrLong, 0, 0)
	wantPrintFault(t, "other faults are first", append(first, []string{"\x00"}), sheet.ErrByte, 65, 0)
	wantPrintFault(t, "very long", slices.Repeat([][]string{slices.Repeat([]string{rows[0][0]}, 64)}, 100), sheet.ErrLong, 0, 0)
}
