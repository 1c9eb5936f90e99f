package sheet_test

import (
	"fmt"
	"math"
	"slices"
	"strings"
	"testing"

	"larder/api"
	"larder/sheet"
)

func wantShown(t *testing.T, name string, cells [][]api.Cell, columns []api.Column, rows [][]string, want fault) {
	t.Helper()
	got, err := sheet.Shown(cells, columns)
	if told(err) != want || !same(got, rows) {
		t.Errorf("Shown, %s: %d rows, %v, want %d rows, %v", name, len(got), told(err), len(rows), want)
	}
}

func wantShownFault(t *testing.T, name string, cells [][]api.Cell, columns []api.Column, err error, line, column int) {
	t.Helper()
	wantShown(t, name, cells, columns, nil, fault{err, line, column})
}

// rightCells are cells of each kind with their texts, the ends of their range among them.
func rightCells() map[int]map[api.Cell]string {
	full := strings.Repeat("x", 4096)
	l := map[int]map[api.Cell]string{
		api.CellText:  {{Text: "a"}: "a", {Text: full}: full, {Text: " "}: " ", {Text: "\t\r\n,\"\xff\x80"}: "\t\r\n,\"\xff\x80"},
		api.CellInt:   {{}: "0", {Num: 7}: "7", {Num: -3}: "-3", {Num: math.MaxInt}: "9223372036854775807", {Num: math.MinInt}: "-9223372036854775808"},
		api.CellCents: {{}: "0.00", {Num: 5}: "0.05", {Num: -5}: "-0.05", {Num: 99}: "0.99", {Num: 100}: "1.00", {Num: -100}: "-1.00", {Num: -1234}: "-12.34", {Num: 1000000000000000}: "10000000000000.00", {Num: -1000000000000000}: "-10000000000000.00"},
		api.CellDate:  {{}: "0000-01-01", {Num: 3652424}: "9999-12-31", {Num: 732005}: "2004-02-29"},
		api.CellCode:  {{Text: "00000012345670"}: "12345670", {Text: "00036000291452"}: "036000291452", {Text: "06291041500213"}: "6291041500213", {Text: "10036000291459"}: "10036000291459", {Text: "00000000000000"}: "00000000"},
		api.CellYes:   {{}: "no", {Num: 1}: "yes"},
	}
	for kind, cells := range l {
		right := map[api.Cell]string{}
		for cell, text := range cells {
			cell.Kind = kind
			right[cell] = text
		}
		l[kind] = right
	}
	return l
}

func TestP4_6RightCells(t *testing.T) {
	for kind, cells := range rightCells() {
		for cell, text := range cells {
			for _, must := range []bool{false, true} {
				columns := []api.Column{{Name: "x", Kind: kind, Must: must}}
				wantShown(t, fmt.Sprint(kind, " ", short(text)), [][]api.Cell{{cell}}, columns, [][]string{{"x"}, {text}}, fault{})
			}
		}
		columns := []api.Column{{Name: "x", Kind: kind}}
		wantShown(t, "none", [][]api.Cell{{{}}}, columns, [][]string{{"x"}, {""}}, fault{})
		columns[0].Must = true
		wantShownFault(t, "none, but it must be", [][]api.Cell{{{}}}, columns, sheet.ErrEmpty, 2, 0)
	}
}

// wrongCells are cells that are none of a kind, beside those of other kinds.
func wrongCells() map[int][]api.Cell {
	full := strings.Repeat("x", 4096)
	l := map[int][]api.Cell{
		api.CellText:  {{}, {Num: 1}, {Text: "a", Num: 1}, {Text: "a", Num: -1}, {Text: "\x00"}, {Text: "a\x7f"}, {Text: "\x1fa"}, {Text: full + "x"}, {Text: strings.Repeat(full, 100)}},
		api.CellInt:   {{Text: "0"}, {Text: "7", Num: 7}, {Text: "\x00", Num: 7}, {Text: " ", Num: math.MinInt}},
		api.CellCents: {{Text: "0"}, {Text: "0.07", Num: 7}, {Num: 1000000000000001}, {Num: -1000000000000001}, {Num: math.MaxInt}, {Num: math.MinInt}},
		api.CellDate:  {{Num: -1}, {Num: 3652425}, {Num: math.MaxInt}, {Num: math.MinInt}, {Text: "0000-01-01"}, {Text: "x", Num: 5}},
		api.CellCode:  {{}, {Num: 1}, {Text: "12345670"}, {Text: "036000291452"}, {Text: "00000012345670", Num: 1}, {Text: "00000012345671"}, {Text: "0000001234567x"}, {Text: "x"}, {Text: "000000012345670"}, {Text: "000000000000000000"}},
		api.CellYes:   {{Num: 2}, {Num: -1}, {Num: math.MinInt}, {Num: math.MaxInt}, {Text: "yes"}, {Text: "yes", Num: 1}, {Text: "no"}},
	}
	for kind := range l {
		for i := range l[kind] {
			l[kind][i].Kind = kind
		}
		l[kind] = append(l[kind], api.Cell{Text: "a"}, api.Cell{Num: 1}, api.Cell{Num: -1}, api.Cell{Text: "1", Num: 1})
	}
	return l
}

func TestP4_6WrongCells(t *testing.T) {
	right, wrong := rightCells(), wrongCells()
	for kind := range right {
		cells := slices.Clone(wrong[kind])
		for other := range right {
			for cell := range right[other] {
				if other != kind {
					cells = append(cells, cell)
				}
			}
		}
		for cell := range right[kind] {
			for _, other := range []int{0, kind + 1, kind - 1, -1, 7, math.MaxInt, math.MinInt} {
				if cell.Kind = other; cell != (api.Cell{}) {
					cells = append(cells, cell)
				}
			}
		}
		for _, cell := range cells {
			for _, must := range []bool{false, true} {
				columns := []api.Column{text("a"), {Name: "x", Kind: kind, Must: must}}
				good := []api.Cell{{}, {}}
				for right := range right[kind] {
					good[1] = right
				}
				name := fmt.Sprint(kind, " ", cell.Kind, " ", short(cell.Text), " ", cell.Num)
				wantShownFault(t, name, [][]api.Cell{good, {{}, cell}}, columns, sheet.ErrValue, 3, 1)
			}
		}
	}
}

func TestP4_6TheFirstFault(t *testing.T) {
	columns := []api.Column{{Name: "a", Kind: api.CellInt, Must: true}, {Name: "b", Kind: api.CellYes, Must: true}}
	one, yes, wrong := api.Cell{Kind: api.CellInt, Num: 1}, api.Cell{Kind: api.CellYes, Num: 1}, api.Cell{Kind: 9}
	good := []api.Cell{one, yes}
	for name, x := range map[string]struct {
		cells [][]api.Cell
		want  fault
	}{
		"ragged ahead of its cells":    {[][]api.Cell{good, {wrong}}, fault{sheet.ErrRagged, 3, 0}},
		"ragged by more":               {[][]api.Cell{{wrong, {}, {}}, {}}, fault{sheet.ErrRagged, 2, 0}},
		"ragged by all":                {[][]api.Cell{good, good, nil}, fault{sheet.ErrRagged, 4, 0}},
		"the row ahead":                {[][]api.Cell{{one, wrong}, {}}, fault{sheet.ErrValue, 2, 1}},
		"empty ahead of wrong":         {[][]api.Cell{{{}, wrong}}, fault{sheet.ErrEmpty, 2, 0}},
		"wrong ahead of empty":         {[][]api.Cell{{wrong, {}}}, fault{sheet.ErrValue, 2, 0}},
		"the second":                   {[][]api.Cell{{one, {}}}, fault{sheet.ErrEmpty, 2, 1}},
		"many rows ahead of all cells": {make([][]api.Cell, 4096), fault{sheet.ErrRows, 4097, 0}},
	} {
		wantShown(t, name, x.cells, columns, nil, x.want)
	}
}

func TestP4_6RowsOfASheet(t *testing.T) {
	columns := []api.Column{{Name: "n", Kind: api.CellInt}}
	cells := slices.Repeat([][]api.Cell{{{Kind: api.CellInt, Num: 7}}}, 4096)
	wantShown(t, "4095", cells[:4095], columns, append([][]string{{"n"}}, slices.Repeat([][]string{{"7"}}, 4095)...), fault{})
	wantShownFault(t, "4096", cells, columns, sheet.ErrRows, 4097, 0)
	wantShownFault(t, "5000", make([][]api.Cell, 5000), columns, sheet.ErrRows, 4097, 0)
}

func TestP4_6LongTexts(t *testing.T) {
	columns := []api.Column{text("12345678901234"), {Name: "n", Kind: api.CellInt}}
	cells := slices.Repeat([][]api.Cell{{{Kind: api.CellText, Text: strings.Repeat("x", 4093)}, {}}}, 64)
	// The head has 18 bytes, each row 4096.
	cells[0] = []api.Cell{{Kind: api.CellText, Text: strings.Repeat("x", 4093-18)}, {}}
	rows, err := sheet.Shown(cells, columns)
	if err != nil || len(rows) != 65 {
		t.Errorf("just so: %d rows, %v", len(rows), err)
	}
	cells[63] = []api.Cell{cells[63][0], {Kind: api.CellInt}}
	wantShownFault(t, "one more", cells, columns, sheet.ErrLong, 0, 0)
	wantShownFault(t, "other faults are first", append(cells, []api.Cell{{}, {Num: 1}}), columns, sheet.ErrValue, 66, 1)
	cells[63] = []api.Cell{{Kind: api.CellText, Text: "," + strings.Repeat("x", 4092)}, {}}
	wantShownFault(t, "by its quotes", cells, columns, sheet.ErrLong, 0, 0)
}
