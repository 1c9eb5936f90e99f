package sheet

import (
	"strings"

	"larder/api"
)

// needQuotes are the bytes that stand in a quoted cell alone.
const needQuotes = ",\"\r\n\t"

// Parse reads the text of a sheet: its rows, or the first fault with the line and the column of its byte.
func Parse(text string) ([][]string, error) {
	r := NewReader()
	rows, _ := r.Feed([]byte(text[:min(len(text), api.MaxSheet+1)])) // the first byte too many tells as much as all of them
	last, err := r.Close()
	if err != nil {
		return nil, err
	}
	return append(rows, last...), nil
}

// Print writes rows as the text of a sheet; or tells the first fault with the number of its row, from 1 on, and that of its cell.
func Print(rows [][]string) (string, error) {
	if err := checkRows(rows); err != nil {
		return "", err
	}
	var p page
	for _, cells := range rows {
		p.writeRow(cells)
		if p.Len() > api.MaxSheet {
			return "", &Fault{Err: ErrLong}
		}
	}
	return p.String(), nil
}

// page is a sheet's text while its rows are written.
type page struct{ strings.Builder }

func (p *page) writeRow(cells []string) {
	for i, cell := range cells {
		if i > 0 {
			p.WriteByte(',')
		}
		p.writeCell(cell)
	}
	p.WriteString("\r\n")
}

func (p *page) writeCell(cell string) {
	if !strings.ContainsAny(cell, needQuotes) {
		p.WriteString(cell)
		return
	}
	p.WriteByte('"')
	p.WriteString(strings.ReplaceAll(cell, `"`, `""`))
	p.WriteByte('"')
}

func checkRows(rows [][]string) error {
	for i, cells := range rows {
		if i == api.MaxRows {
			return &Fault{Line: i + 1, Err: ErrRows}
		}
		if err := checkRow(cells, len(rows[0])); err != nil {
			return onLine(err, i+1)
		}
	}
	return nil
}

func checkRow(cells []string, width int) error {
	switch {
	case len(cells) == 0:
		return &Fault{Err: ErrCells}
	case len(cells) > api.MaxCells:
		return &Fault{Column: api.MaxCells, Err: ErrCells}
	case len(cells) != width:
		return &Fault{Err: ErrRagged}
	}
	for i, cell := range cells {
		if err := checkCell(cell); err != nil {
			return &Fault{Column: i, Err: err}
		}
	}
	return nil
}

func checkCell(cell string) error {
	if len(cell) > api.MaxCell {
		return ErrCell
	}
	for i := range len(cell) {
		if !mayStand(cell[i]) {
			return ErrByte
		}
	}
	return nil
}

// mayStand says whether a cell may have this byte.
func mayStand(c byte) bool {
	switch c {
	case '\t', '\n', '\r':
		return true
	case 127:
		return false
	}
	return c >= ' '
}
