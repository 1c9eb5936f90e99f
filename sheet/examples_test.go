package sheet_test

import (
	"errors"
	"testing"

	"larder/api"
	"larder/sheet"
)

func TestExample1Rows(t *testing.T) {
	wantParsed(t, "a,b\r\n1,\"x \"\"y\"\"\"\r\n", [][]string{{"a", "b"}, {"1", "x \"y\""}}, fault{})
	wantParsed(t, "", nil, fault{})
	wantParsed(t, "\r\n", [][]string{{""}}, fault{})
	wantParsed(t, "a", [][]string{{"a"}}, fault{})
	wantParsed(t, ",", [][]string{{"", ""}}, fault{})
}

func TestExample2Faults(t *testing.T) {
	wantParsed(t, "a\nb", nil, fault{sheet.ErrLine, 1, 1})
	wantParsed(t, "a\rb", nil, fault{sheet.ErrLine, 1, 1})
	wantParsed(t, "a\r", nil, fault{sheet.ErrLine, 1, 1})
	wantParsed(t, "a\"b", nil, fault{sheet.ErrQuote, 1, 1})
	wantParsed(t, "\"a\"b", nil, fault{sheet.ErrQuote, 1, 3})
	wantParsed(t, "\"a\r\nb", nil, fault{sheet.ErrOpen, 1, 0})
	wantParsed(t, "a,b\r\nc\r\n", nil, fault{sheet.ErrRagged, 2, 1})
	wantParsed(t, "\"x\ny\",\x01", nil, fault{sheet.ErrByte, 2, 3})
}

func TestExample3Print(t *testing.T) {
	wantPrinted(t, "two rows", [][]string{{"a", "b,c"}, {"", "d"}}, "a,\"b,c\"\r\n,d\r\n", fault{})
	wantPrintFault(t, "no cells", [][]string{{}}, sheet.ErrCells, 1, 0)
	wantPrintFault(t, "ragged", [][]string{{"a"}, {"b", "c"}}, sheet.ErrRagged, 2, 0)
	wantPrintFault(t, "byte", [][]string{{"\x00"}}, sheet.ErrByte, 1, 0)
}

func TestExample4Reader(t *testing.T) {
	r := sheet.NewReader()
	if rows, err := r.Feed([]byte("a,b\r")); len(rows) != 0 || err != nil {
		t.Errorf("%q, %v", rows, err)
	}
	if rows, err := r.Feed([]byte("\nc")); !same(rows, [][]string{{"a", "b"}}) || err != nil {
		t.Errorf("%q, %v", rows, err)
	}
	_, err := r.Close()
	wantFault(t, "Close", err, fault{sheet.ErrRagged, 2, 1})
	r = sheet.NewReader()
	_, err = r.Feed([]byte("a\rb"))
	wantFault(t, "Feed", err, fault{sheet.ErrLine, 1, 1})
	_, err = r.Feed([]byte("x"))
	wantFault(t, "Feed", err, fault{sheet.ErrLine, 1, 1})
}

func TestExample5Columns(t *testing.T) {
	columns := []api.Column{{Name: "qty", Kind: api.CellInt, Must: true}, {Name: "code", Kind: api.CellCode}}
	wantTyped(t, "two rows", [][]string{{"code", "note", "qty"}, {"12345670", "x", "7"}, {"", "", "-3"}}, columns, [][]api.Cell{
		{{Kind: api.CellInt, Num: 7}, {Kind: api.CellCode, Text: "00000012345670"}},
		{{Kind: api.CellInt, Num: -3}, {}},
	}, fault{})
	wantTypedFault(t, "missing", [][]string{{"code"}, {"1"}}, columns, sheet.ErrMissing, 1, 0)
	wantTypedFault(t, "twice", [][]string{{"qty", "code", "qty"}}, columns, sheet.ErrTwice, 1, 2)
	wrong := [][]string{{"code", "qty"}, {"12345671", "1"}}
	wantTypedFault(t, "code", wrong, columns, sheet.ErrCode, 2, 0)
	_, err := sheet.Typed(wrong, columns)
	var w *sheet.Why
	if !errors.As(err, &w) || w.Code != 22 {
		t.Errorf("%v", err)
	}
	wantTypedFault(t, "empty", [][]string{{"code", "qty"}, {"", ""}}, columns, sheet.ErrEmpty, 2, 1)
	wantTypedFault(t, "number", [][]string{{"code", "qty"}, {"", "07"}}, columns, sheet.ErrNumber, 2, 1)
}

func TestExample6Cells(t *testing.T) {
	for cell, n := range map[string]int{"12": 1200, "12.50": 1250, "-0.05": -5} {
		wantCell(t, api.CellCents, cell, api.Cell{Kind: api.CellCents, Num: n}, nil)
	}
	for _, cell := range []string{"12.5", ".50", "1.", "-0"} {
		wantCell(t, api.CellCents, cell, api.Cell{}, sheet.ErrCents)
	}
	columns := []api.Column{{Name: "c", Kind: api.CellCents}, {Name: "d", Kind: api.CellDate}}
	wantShown(t, "cents and a day", [][]api.Cell{{{Kind: api.CellCents, Num: -5}, {Kind: api.CellDate}}}, columns, [][]string{{"c", "d"}, {"-0.05", "0000-01-01"}}, fault{})
}
