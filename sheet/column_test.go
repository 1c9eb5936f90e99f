package sheet_test

import (
	"errors"
	"fmt"
	"math"
	"math/big"
	"regexp"
	"slices"
	"strconv"
	"strings"
	"testing"

	"larder/api"
	"larder/cal"
	"larder/gtin"
	"larder/sheet"
)

func wantTyped(t *testing.T, name string, rows [][]string, columns []api.Column, cells [][]api.Cell, want fault) {
	t.Helper()
	got, err := sheet.Typed(rows, columns)
	if told(err) != want || !sameCells(got, cells) {
		t.Errorf("Typed, %s: %v, %v, want %v, %v", name, got, told(err), cells, want)
	}
}

func wantTypedFault(t *testing.T, name string, rows [][]string, columns []api.Column, err error, line, column int) {
	t.Helper()
	wantTyped(t, name, rows, columns, nil, fault{err, line, column})
}

func text(name string) api.Column { return api.Column{Name: name, Kind: api.CellText} }

// wrongColumns are lists of columns that may not be, with the number of the first wrong one.
func wrongColumns() map[int][][]api.Column {
	var many []api.Column
	for i := range 66 {
		many = append(many, text("c"+strconv.Itoa(i)))
	}
	early := slices.Clone(many)
	early[63].Name = "c0"
	late := slices.Clone(many)
	late[65].Kind = 0
	return map[int][][]api.Column{
		0: {
			nil, {}, {{}}, {text("")}, {text(strings.Repeat("x", 65))}, {text("\x00")}, {text("a\x7fb")}, {text("\x1f")},
			{{Name: "a"}}, {{Name: "a", Kind: -1}}, {{Name: "a", Kind: 7}}, {{Name: "a", Kind: math.MaxInt}}, {{Name: "a", Kind: math.MinInt}},
			{text(""), text("")}, {text(strings.Repeat("x", 100000))},
		},
		1:  {{text("a"), text("a")}, {text("a"), {Name: "a", Kind: api.CellInt}}, {text("a"), text("")}, {text("a"), {Name: "b", Kind: 9}, text("a")}},
		2:  {{text("a"), text("b"), text("a")}, {text("a"), text("b"), text("b"), text("a")}},
		63: {early},
		64: {many, many[:65], late},
	}
}

func TestP4_5P4_6WrongColumns(t *testing.T) {
	for number, lists := range wrongColumns() {
		for _, columns := range lists {
			want := fault{sheet.ErrColumns, 0, number}
			name := short(fmt.Sprint(columns))
			for _, rows := range [][][]string{nil, {{"a"}}, {{}}, {{"\x00"}}} {
				wantTyped(t, name, rows, columns, nil, want)
			}
			for _, cells := range [][][]api.Cell{nil, {{}}, {{{Num: 1}}}, make([][]api.Cell, 5000)} {
				wantShown(t, name, cells, columns, nil, want)
			}
		}
	}
}

func TestP4_5P4_6RightColumns(t *testing.T) {
	var full []api.Column
	for i := range 64 {
		full = append(full, text("c"+strconv.Itoa(i)))
	}
	for _, columns := range [][]api.Column{full, {text("a")}, {text("A"), text("a")}, {text(strings.Repeat("x", 64))}, {text(" ")}, {text("\r\n,\t\""), text("\xff\x80")}} {
		var head []string
		for _, c := range columns {
			head = append(head, c.Name)
		}
		wantTyped(t, "right columns", [][]string{head}, columns, nil, fault{})
		wantShown(t, "right columns", nil, columns, [][]string{head}, fault{})
	}
}

func TestP4_5FaultsOfTheRows(t *testing.T) {
	columns := []api.Column{text("a")}
	full := strings.Repeat("x", 4096)
	for name, rows := range map[string][][]string{
		"no cells":    {{}},
		"many cells":  {slices.Repeat([]string{"a"}, 65)},
		"ragged":      {{"a", "b"}, {"c"}},
		"long cell":   {{"a"}, {full + "x"}},
		"byte":        {{"b"}, {"\x00"}},
		"many rows":   slices.Repeat([][]string{{"b"}}, 4097),
		"long":        slices.Repeat([][]string{{full}}, 64),
		"long by two": slices.Repeat([][]string{{full[:4095]}}, 64),
	} {
		_, err := sheet.Print(rows)
		if err == nil {
			t.Errorf("%s: no fault", name)
		}
		wantTyped(t, name, rows, columns, nil, told(err))
	}
}

func TestP4_5Heads(t *testing.T) {
	columns := []api.Column{text("a"), text("b"), {Name: "c", Kind: api.CellInt, Must: true}}
	wantTypedFault(t, "no head", nil, columns, sheet.ErrMissing, 1, 0)
	for _, x := range []struct {
		head   string
		err    error
		column int
	}{
		{"x", sheet.ErrMissing, 0},
		{"b c", sheet.ErrMissing, 0},
		{"a c", sheet.ErrMissing, 1},
		{"a b", sheet.ErrMissing, 2},
		{"a b C", sheet.ErrMissing, 2},
		{"a a", sheet.ErrTwice, 1},
		{"a b a c", sheet.ErrTwice, 2},
		{"a b c b b", sheet.ErrTwice, 3},
		{"b b c", sheet.ErrMissing, 0},
		{"b b a c", sheet.ErrTwice, 1},
		{"c c b b a a", sheet.ErrTwice, 5},
		{"c a c b", sheet.ErrTwice, 2},
		{"a a a b c", sheet.ErrTwice, 1},
		{"a b c", nil, 0},
		{"c b a", nil, 0},
		{"x c x b y a x", nil, 0},
	} {
		head := strings.Fields(x.head)
		want := fault{x.err, 1, x.column}
		if x.err == nil {
			want = fault{}
		}
		wantTyped(t, x.head, [][]string{head}, columns, nil, want)
		if x.err != nil {
			wantTyped(t, x.head, [][]string{head, make([]string, len(head))}, columns, nil, want)
		}
	}
	wantTyped(t, "an empty cell in the head", [][]string{{"", "a"}, {"x", "y"}}, []api.Column{text("a")}, [][]api.Cell{{{Kind: api.CellText, Text: "y"}}}, fault{})
}

func TestP4_5TheFirstFault(t *testing.T) {
	columns := []api.Column{
		{Name: "i", Kind: api.CellInt, Must: true}, {Name: "c", Kind: api.CellCents, Must: true}, {Name: "d", Kind: api.CellDate, Must: true},
		{Name: "o", Kind: api.CellCode, Must: true}, {Name: "y", Kind: api.CellYes, Must: true}, {Name: "t", Kind: api.CellText, Must: true},
	}
	head := []string{"t", "y", "o", "n", "d", "c", "i"}
	row := []string{"?", "?", "?", "?", "?", "?", "?"}
	good := []string{"t", "yes", "12345670", "", "2000-01-01", "1", "1"}
	for _, x := range []struct {
		place int
		err   error
		mends string
	}{{6, sheet.ErrNumber, "1"}, {5, sheet.ErrCents, "1"}, {4, sheet.ErrDate, "20000101"}, {2, sheet.ErrCode, "12345670"}, {1, sheet.ErrYes, "no"}} {
		wantTypedFault(t, "wrong", [][]string{head, good, row, make([]string, 7)}, columns, x.err, 3, x.place)
		row[x.place] = ""
		wantTypedFault(t, "empty", [][]string{head, good, good, row, row}, columns, sheet.ErrEmpty, 4, x.place)
		row[x.place] = x.mends
	}
	row[0] = ""
	wantTypedFault(t, "text", [][]string{head, row}, columns, sheet.ErrEmpty, 2, 0)
}

func TestP4_5Rows(t *testing.T) {
	columns := []api.Column{{Name: "n", Kind: api.CellInt}, text("t"), {Name: "d", Kind: api.CellDate}, {Name: "o", Kind: api.CellCode}, {Name: "y", Kind: api.CellYes, Must: true}, {Name: "c", Kind: api.CellCents}}
	rows := [][]string{
		{"y", "", "t", "n", "x", "o", "c", "d"},
		{"yes", "-", "a,\"b", "-12", "-", "036000291452", "-12.34", "2004-060"},
		{"no", "\t", "", "", "", "", "", ""},
	}
	wantTyped(t, "all kinds", rows, columns, [][]api.Cell{
		{{Kind: api.CellInt, Num: -12}, {Kind: api.CellText, Text: "a,\"b"}, {Kind: api.CellDate, Num: 732005}, {Kind: api.CellCode, Text: "00036000291452"}, {Kind: api.CellYes, Num: 1}, {Kind: api.CellCents, Num: -1234}},
		{{}, {}, {}, {}, {Kind: api.CellYes}, {}},
	}, fault{})
	many := slices.Repeat(rows[1:2], 4095)
	cells, err := sheet.Typed(append([][]string{rows[0]}, many...), columns)
	if err != nil || len(cells) != 4095 || !slices.Equal(cells[0], cells[4094]) {
		t.Errorf("%d rows, %v", len(cells), err)
	}
}

// readCell reads one cell of a kind.
func readCell(kind int, cell string) (api.Cell, error) {
	cells, err := sheet.Typed([][]string{{"x"}, {cell}}, []api.Column{{Name: "x", Kind: kind}})
	if err != nil {
		return api.Cell{}, err
	}
	return cells[0][0], nil
}

func wantCell(t *testing.T, kind int, cell string, want api.Cell, err error) {
	t.Helper()
	got, e := readCell(kind, cell)
	fault := fault{err, 2, 0}
	if err == nil {
		fault.line = 0
	}
	if got != want || told(e) != fault {
		t.Errorf("kind %d, %s: %v, %v, want %v, %v", kind, short(cell), got, told(e), want, fault)
	}
}

func numberSlowly(cell string) (api.Cell, error) {
	n, ok := new(big.Int), regexp.MustCompile(`^(0|-?[1-9][0-9]*)$`).MatchString(cell) && !strings.HasSuffix(cell, "\n")
	if ok {
		n.SetString(cell, 10)
	}
	if !ok || !n.IsInt64() {
		return api.Cell{}, sheet.ErrNumber
	}
	return api.Cell{Kind: api.CellInt, Num: int(n.Int64())}, nil
}

func centsSlowly(cell string) (api.Cell, error) {
	m := regexp.MustCompile(`^(-?)(0|[1-9][0-9]*)(?:\.([0-9][0-9]))?$`).FindStringSubmatch(cell)
	if m == nil || cell == "-0" || cell == "-0.00" {
		return api.Cell{}, sheet.ErrCents
	}
	n, _ := new(big.Int).SetString(m[1]+m[2]+(m[3] + "00")[:2], 10)
	most := big.NewInt(1000000000000000)
	if n.CmpAbs(most) > 0 {
		return api.Cell{}, sheet.ErrCents
	}
	return api.Cell{Kind: api.CellCents, Num: int(n.Int64())}, nil
}

func TestP4_5Numbers(t *testing.T) {
	check := func(cell string) {
		if cell != "" {
			want, err := numberSlowly(cell)
			wantCell(t, api.CellInt, cell, want, err)
			want, err = centsSlowly(cell)
			wantCell(t, api.CellCents, cell, want, err)
		}
	}
	eachText("019-.+", 6, check)
	for _, base := range []string{"12", "-12", "0", "12.34", "-12.34", "0.05", "9223372036854775807", "-9223372036854775808", "10000000000000.00", "-10000000000000.00"} {
		for at := range len(base) + 1 {
			for c := range 256 {
				with := string([]byte{byte(c)})
				if !cellMayHave(byte(c)) {
					continue
				}
				check(base[:at] + with + base[at:])
				if at < len(base) {
					check(base[:at] + with + base[at+1:])
				}
			}
		}
	}
	for _, cell := range []string{
		"9223372036854775806", "9223372036854775807", "9223372036854775808", "-9223372036854775808", "-9223372036854775809", "18446744073709551616", "-18446744073709551617", strings.Repeat("9", 4096), "-" + strings.Repeat("9", 4095),
		"10000000000000", "-10000000000000", "10000000000000.00", "10000000000000.01", "-10000000000000.01", "9999999999999.99", "-9999999999999.99", "10000000000001", "92233720368547758.07", "92233720368547758.08", "184467440737095516.16", "1,00", "0x10", "1e3", "1_0", " 1", "1 ", "٣",
	} {
		check(cell)
	}
}

func TestP4_5Ends(t *testing.T) {
	for cell, n := range map[string]int{"9223372036854775807": math.MaxInt, "-9223372036854775808": math.MinInt, "0": 0, "-1": -1} {
		wantCell(t, api.CellInt, cell, api.Cell{Kind: api.CellInt, Num: n}, nil)
	}
	for cell, n := range map[string]int{"10000000000000": api.MaxCents, "-10000000000000.00": -api.MaxCents, "0.00": 0, "0": 0, "-0.01": -1, "0.10": 10} {
		wantCell(t, api.CellCents, cell, api.Cell{Kind: api.CellCents, Num: n}, nil)
	}
	for cell, n := range map[string]int{"0000-01-01": 0, "9999-12-31": api.MaxDay, "00000101": 0, "9999365": api.MaxDay} {
		wantCell(t, api.CellDate, cell, api.Cell{Kind: api.CellDate, Num: n}, nil)
	}
	full := strings.Repeat("x", 4096)
	for _, cell := range []string{full, " ", "\r\n", "\t", "\"", "\xff", "no"} {
		wantCell(t, api.CellText, cell, api.Cell{Kind: api.CellText, Text: cell}, nil)
	}
	for kind := api.CellText; kind <= api.CellYes; kind++ {
		wantCell(t, kind, "", api.Cell{}, nil)
	}
}

func TestP4_5Yes(t *testing.T) {
	wantCell(t, api.CellYes, "yes", api.Cell{Kind: api.CellYes, Num: 1}, nil)
	wantCell(t, api.CellYes, "no", api.Cell{Kind: api.CellYes}, nil)
	for _, cell := range []string{"Yes", "NO", "y", "n", "ye", "yess", "noo", " yes", "no ", "1", "0", "true", "-"} {
		wantCell(t, api.CellYes, cell, api.Cell{}, sheet.ErrYes)
	}
}

func wantWhy(t *testing.T, kind int, cell string, variable error, code api.Errno) {
	t.Helper()
	_, err := readCell(kind, cell)
	var w *sheet.Why
	if !errors.As(err, &w) || w.Kind != variable || w.Code != code {
		t.Errorf("%q: %#v, want Code %d", cell, w, code)
	}
	wantFault(t, cell, err, fault{variable, 2, 0})
}

func TestP4_5Dates(t *testing.T) {
	for _, cell := range []string{
		"2004-02-29", "20040229", "2004-060", "2004060", "2004-W09-7", "2004W097", "0000-W01-1", "9999-W52-7",
		"2001-02-29", "2001-13-01", "2004-367", "2004-W54-1", "9999-W53-1", "0000-W00-1", "2004-2-29", "2004-02-29 ", "-2004-02-29", "today", strings.Repeat("2", 64), strings.Repeat("2", 65), strings.Repeat("2", 4096),
	} {
		d, e, _ := cal.ParseDate(cell)
		if e != api.OK {
			wantWhy(t, api.CellDate, cell, sheet.ErrDate, e)
			continue
		}
		n, _ := cal.Days(d)
		wantCell(t, api.CellDate, cell, api.Cell{Kind: api.CellDate, Num: n}, nil)
	}
}

func TestP4_5Codes(t *testing.T) {
	for _, cell := range []string{
		"12345670", "036000291452", "6291041500213", "10036000291459", "00000000", "00000012345670",
		"12345671", "036000291453", "1234567", "123456789", "123456789012345678", "1234567890123456789", "1234567x", " 12345670", "x", strings.Repeat("1", 4096),
	} {
		code, e := gtin.Normal(cell)
		if e != api.OK {
			wantWhy(t, api.CellCode, cell, sheet.ErrCode, e)
			continue
		}
		wantCell(t, api.CellCode, cell, api.Cell{Kind: api.CellCode, Text: code}, nil)
	}
}
