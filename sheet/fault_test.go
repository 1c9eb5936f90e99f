package sheet_test

import (
	"errors"
	"math"
	"strconv"
	"strings"
	"testing"

	"larder/api"
	"larder/sheet"
)

func TestP4_1VariablesAreUnlike(t *testing.T) {
	l := variables()
	for i, a := range l {
		for j, b := range l {
			if a == nil || errors.Is(a, b) != (i == j) {
				t.Errorf("%d and %d: %v, %v", i, j, a, b)
			}
		}
	}
}

// failing has for each variable a call that answers it, and the Code of its Why, if it has one.
func failing() []struct {
	want fault
	code api.Errno
	call func() error
} {
	parse := func(text string) func() error {
		return func() error { _, err := sheet.Parse(text); return err }
	}
	typed := func(kind int, text string) func() error {
		return func() error {
			_, err := sheet.Typed([][]string{{"n", "x"}, {"", text}}, []api.Column{{Name: "x", Kind: kind, Must: true}})
			return err
		}
	}
	done := func() error {
		r := sheet.NewReader()
		r.Close()
		_, err := r.Close()
		return err
	}
	head := func(cells ...string) func() error {
		return func() error {
			_, err := sheet.Typed([][]string{cells}, []api.Column{{Name: "x", Kind: api.CellText}})
			return err
		}
	}
	value := func() error {
		_, err := sheet.Shown([][]api.Cell{{{Num: 1}}}, []api.Column{{Name: "x", Kind: api.CellText}})
		return err
	}
	columns := func() error { _, err := sheet.Shown(nil, nil); return err }
	return []struct {
		want fault
		code api.Errno
		call func() error
	}{
		{fault{sheet.ErrOpen, 1, 2}, 0, parse("a,\"b")},
		{fault{sheet.ErrQuote, 1, 1}, 0, parse("a\"b")},
		{fault{sheet.ErrLine, 1, 1}, 0, parse("a\nb")},
		{fault{sheet.ErrByte, 1, 0}, 0, parse("\x00")},
		{fault{sheet.ErrCell, 1, 4096}, 0, parse(strings.Repeat("x", 4097))},
		{fault{sheet.ErrCells, 1, 63}, 0, parse(strings.Repeat(",", 64))},
		{fault{sheet.ErrRows, 4097, 0}, 0, parse(strings.Repeat("\r\n", 4097))},
		{fault{sheet.ErrRagged, 2, 1}, 0, parse("a\r\n,")},
		{fault{sheet.ErrDone, 0, 0}, 0, done},
		{fault{sheet.ErrLong, 66, 2014}, 0, parse(oneCell(262145))},
		{fault{sheet.ErrColumns, 0, 0}, 0, columns},
		{fault{sheet.ErrMissing, 1, 0}, 0, head("y")},
		{fault{sheet.ErrTwice, 1, 1}, 0, head("x", "x")},
		{fault{sheet.ErrEmpty, 2, 1}, 0, typed(api.CellInt, "")},
		{fault{sheet.ErrNumber, 2, 1}, 0, typed(api.CellInt, "x")},
		{fault{sheet.ErrCents, 2, 1}, 0, typed(api.CellCents, "x")},
		{fault{sheet.ErrDate, 2, 1}, api.ErrText, typed(api.CellDate, "x")},
		{fault{sheet.ErrDate, 2, 1}, api.ErrDate, typed(api.CellDate, "2001-02-29")},
		{fault{sheet.ErrDate, 2, 1}, api.ErrLong, typed(api.CellDate, strings.Repeat("1", 65))},
		{fault{sheet.ErrCode, 2, 1}, api.ErrDigit, typed(api.CellCode, "x")},
		{fault{sheet.ErrCode, 2, 1}, api.ErrSize, typed(api.CellCode, "1")},
		{fault{sheet.ErrCode, 2, 1}, api.ErrSize, typed(api.CellCode, "000000000000000000")},
		{fault{sheet.ErrCode, 2, 1}, api.ErrCheck, typed(api.CellCode, "12345671")},
		{fault{sheet.ErrCode, 2, 1}, api.ErrLong, typed(api.CellCode, "1234567890123456789")},
		{fault{sheet.ErrYes, 2, 1}, 0, typed(api.CellYes, "x")},
		{fault{sheet.ErrValue, 2, 0}, 0, value},
	}
}

func TestP4_1EveryErrorIsAFaultOfOneVariable(t *testing.T) {
	for _, x := range failing() {
		err := x.call()
		wantFault(t, x.want.String(), err, x.want)
		count := 0
		for _, v := range variables() {
			if errors.Is(err, v) {
				count++
			}
		}
		if count != 1 {
			t.Errorf("%v: errors.Is holds for %d variables", x.want, count)
		}
		f, ok := err.(*sheet.Fault)
		if !ok {
			t.Fatalf("%v: a %T", x.want, err)
		}
		w, wrapped := f.Err.(*sheet.Why)
		switch {
		case x.code == 0 && f.Err != x.want.err:
			t.Errorf("%v: its Err is %v", x.want, f.Err)
		case x.code != 0 && (!wrapped || w.Kind != x.want.err || w.Code != x.code):
			t.Errorf("%v: its Err is %#v, want Code %d", x.want, f.Err, x.code)
		}
	}
}

func TestP4_1Texts(t *testing.T) {
	for _, x := range failing() {
		err := x.call()
		want := "line " + strconv.Itoa(x.want.line) + " column " + strconv.Itoa(x.want.column) + ": " + x.want.err.Error()
		if x.code != 0 {
			want += " " + strconv.Itoa(int(x.code))
		}
		if err.Error() != want {
			t.Errorf("%q, want %q", err.Error(), want)
		}
	}
	lost := errors.New("lost")
	for _, x := range []struct {
		err  error
		text string
	}{
		{&sheet.Fault{}, "line 0 column 0: "},
		{&sheet.Fault{Line: -1, Column: -20, Err: lost}, "line -1 column -20: lost"},
		{&sheet.Fault{Line: math.MaxInt, Column: math.MinInt, Err: lost}, "line 9223372036854775807 column -9223372036854775808: lost"},
		{&sheet.Fault{Line: 1, Column: 2, Err: &sheet.Why{Kind: lost, Code: 31}}, "line 1 column 2: lost 31"},
		{&sheet.Fault{Line: 1, Column: 2, Err: (*sheet.Why)(nil)}, "line 1 column 2: "},
		{&sheet.Fault{Line: 1, Column: 2, Err: &sheet.Fault{Line: 3, Err: lost}}, "line 1 column 2: line 3 column 0: lost"},
		{&sheet.Fault{Line: 1, Column: 2, Err: (*sheet.Fault)(nil)}, "line 1 column 2: "},
		{&sheet.Why{}, " 0"},
		{&sheet.Why{Kind: lost, Code: -7}, "lost -7"},
		{&sheet.Why{Code: math.MinInt}, " -9223372036854775808"},
		{&sheet.Why{Kind: (*sheet.Why)(nil), Code: math.MaxInt}, " 9223372036854775807"},
		{(*sheet.Fault)(nil), ""},
		{(*sheet.Why)(nil), ""},
	} {
		if got := x.err.Error(); got != x.text {
			t.Errorf("%q, want %q", got, x.text)
		}
	}
}

func TestP4_1Unwrap(t *testing.T) {
	lost := errors.New("lost")
	for _, x := range []struct {
		err  interface{ Unwrap() error }
		want error
	}{
		{&sheet.Fault{}, nil}, {&sheet.Fault{Line: 1, Err: lost}, lost}, {(*sheet.Fault)(nil), nil},
		{&sheet.Why{}, nil}, {&sheet.Why{Kind: lost, Code: 1}, lost}, {(*sheet.Why)(nil), nil},
	} {
		if got := x.err.Unwrap(); got != x.want {
			t.Errorf("%#v: %v, want %v", x.err, got, x.want)
		}
	}
}

func TestP4_1NothingBesideAnError(t *testing.T) {
	cols := []api.Column{{Name: "x", Kind: api.CellInt}}
	if rows, err := sheet.Parse("a\r\nb\r\n\""); len(rows) != 0 || err == nil {
		t.Errorf("Parse: %q, %v", rows, err)
	}
	if text, err := sheet.Print([][]string{{"a"}, {}}); text != "" || err == nil {
		t.Errorf("Print: %q, %v", text, err)
	}
	if cells, err := sheet.Typed([][]string{{"x"}, {"1"}, {"y"}}, cols); len(cells) != 0 || err == nil {
		t.Errorf("Typed: %v, %v", cells, err)
	}
	if rows, err := sheet.Shown([][]api.Cell{{{}}, {}}, cols); len(rows) != 0 || err == nil {
		t.Errorf("Shown: %q, %v", rows, err)
	}
	r := sheet.NewReader()
	r.Feed([]byte("a\r\nb,"))
	if rows, err := r.Close(); len(rows) != 0 || err == nil {
		t.Errorf("Close: %q, %v", rows, err)
	}
}
