package sheet

import (
	"errors"
	"slices"
	"strings"

	"larder/api"
)

// Typed reads the columns of a sheet by their names in its first row: for each row behind that its cells in the order of columns; or the first fault.
func Typed(rows [][]string, columns []api.Column) ([][]api.Cell, error) {
	if err := checkColumns(columns); err != nil {
		return nil, err
	}
	if _, err := Print(rows); err != nil {
		return nil, err
	}
	places, err := findColumns(rows, columns)
	if err != nil {
		return nil, err
	}
	var typed [][]api.Cell
	for i, row := range rows[1:] {
		cells, err := typedRow(row, places, columns)
		if err != nil {
			return nil, onLine(err, i+2)
		}
		typed = append(typed, cells)
	}
	return typed, nil
}

// Shown writes typed cells as rows, with the columns' names ahead; or tells the first fault, on the line that its row would have.
func Shown(cells [][]api.Cell, columns []api.Column) ([][]string, error) {
	if err := checkColumns(columns); err != nil {
		return nil, err
	}
	if len(cells) >= api.MaxRows {
		return nil, &Fault{Line: api.MaxRows + 1, Err: ErrRows}
	}
	rows := [][]string{names(columns)}
	for i, row := range cells {
		texts, err := shownRow(row, columns)
		if err != nil {
			return nil, onLine(err, i+2)
		}
		rows = append(rows, texts)
	}
	if _, err := Print(rows); errors.Is(err, ErrLong) {
		return nil, err
	}
	return own(rows), nil
}

func checkColumns(columns []api.Column) error {
	if len(columns) == 0 {
		return &Fault{Err: ErrColumns}
	}
	for i, c := range columns {
		if i == api.MaxCells || !mayBe(c) || slices.Contains(names(columns[:i]), c.Name) {
			return &Fault{Column: i, Err: ErrColumns}
		}
	}
	return nil
}

func mayBe(c api.Column) bool {
	return c.Name != "" && len(c.Name) <= api.MaxHead && checkCell(c.Name) == nil && c.Kind >= api.CellText && c.Kind <= api.CellYes
}

func names(columns []api.Column) []string {
	var l []string
	for _, c := range columns {
		l = append(l, c.Name)
	}
	return l
}

// findColumns answers for each column the number of its cell in every row.
func findColumns(rows [][]string, columns []api.Column) ([]int, error) {
	var head []string
	if len(rows) > 0 {
		head = rows[0]
	}
	var places []int
	for i, c := range columns {
		first := slices.Index(head, c.Name)
		if first < 0 {
			return nil, &Fault{Line: 1, Column: i, Err: ErrMissing}
		}
		behind := first + 1
		if second := slices.Index(head[behind:], c.Name); second >= 0 {
			return nil, &Fault{Line: 1, Column: behind + second, Err: ErrTwice}
		}
		places = append(places, first)
	}
	return places, nil
}

func typedRow(row []string, places []int, columns []api.Column) ([]api.Cell, error) {
	var cells []api.Cell
	for i, c := range columns {
		cell, err := typedCell(row[places[i]], c)
		if err != nil {
			return nil, &Fault{Column: places[i], Err: err}
		}
		cells = append(cells, cell)
	}
	return cells, nil
}

func typedCell(text string, c api.Column) (api.Cell, error) {
	if text != "" {
		return kinds()[c.Kind].read(text)
	}
	if c.Must {
		return api.Cell{}, ErrEmpty
	}
	return api.Cell{}, nil
}

func shownRow(row []api.Cell, columns []api.Column) ([]string, error) {
	if len(row) != len(columns) {
		return nil, &Fault{Err: ErrRagged}
	}
	var texts []string
	for i, c := range columns {
		text, err := shownCell(row[i], c)
		if err != nil {
			return nil, &Fault{Column: i, Err: err}
		}
		texts = append(texts, text)
	}
	return texts, nil
}

// shownCell takes a cell as one of its column's just if it is what its text is read as; so each kind's bounds stand in its reader alone.
func shownCell(cell api.Cell, c api.Column) (string, error) {
	if cell == (api.Cell{}) {
		_, err := typedCell("", c)
		return "", err
	}
	text := kinds()[c.Kind].show(cell)
	if checkCell(text) != nil {
		return "", ErrValue
	}
	if back, err := typedCell(text, c); err != nil || back != cell {
		return "", ErrValue
	}
	return text, nil
}

// own gives rows of this package texts of their own; no sooner, so that texts of any size are not copied ahead of being told too long.
func own(rows [][]string) [][]string {
	for _, row := range rows {
		for i, cell := range row {
			row[i] = strings.Clone(cell)
		}
	}
	return rows
}
