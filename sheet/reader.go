package sheet

import (
	"strings"

	"larder/api"
)

// end is what a state is given behind the last byte: the text's end counts as a byte.
const end = -1

// Reader reads a sheet whose bytes come in pieces. Of all that came it keeps only the row that has begun, and the first fault.
type Reader struct {
	next   func(c int) // its state: what it does with the next byte, or with end
	size   int         // how many bytes came
	here   place       // of the next byte
	opened place       // of the " that opened the cell
	ended  place       // of the CR behind the row
	rows   int         // how many are over
	width  int         // how many cells the first of them has
	row    row
	told   [][]string // what this call is to tell
	fault  Fault
	done   bool
}

type place struct{ line, column int }

// row is one that has begun: its cells that are over, and in the Builder the one that is not.
type row struct {
	strings.Builder
	cells []string
}

func (r *row) endCell() {
	r.cells = append(r.cells, r.String())
	r.Reset()
}

// NewReader answers a Reader to which nothing has come.
func NewReader() *Reader { return &Reader{} }

// Feed takes the bytes p behind those that came ahead of them, and answers the rows that have ended since; if the bytes show a fault, that too.
func (r *Reader) Feed(p []byte) ([][]string, error) {
	if r == nil {
		return nil, nil
	}
	if r.done {
		return nil, &Fault{Err: ErrDone}
	}
	r.begin()
	for i := 0; i < len(p) && r.fault.Err == nil; i++ {
		r.take(p[i])
	}
	return r.tell()
}

// Close says that nothing more comes, and answers the last row, if it has no LF; else the fault that was told, or that of the text's end.
func (r *Reader) Close() ([][]string, error) {
	if r == nil {
		return nil, nil
	}
	if r.done {
		return nil, &Fault{Err: ErrDone}
	}
	r.begin()
	if r.fault.Err == nil {
		r.next(end)
	}
	rows, err := r.tell()
	*r = Reader{done: true}
	return rows, err
}

// begin is for a Reader to which nothing has come, whoever made it.
func (r *Reader) begin() {
	if r.next == nil {
		r.next = r.beginRow
		r.here.line = 1
	}
}

func (r *Reader) take(c byte) {
	if r.size == api.MaxSheet {
		r.fail(ErrLong, r.here)
		return
	}
	r.next(int(c))
	r.size++
	r.here.column++
	if c == '\n' {
		r.here = place{line: r.here.line + 1}
	}
}

// tell hands out a Fault of its own each time, since its holder may write into it.
func (r *Reader) tell() ([][]string, error) {
	rows := r.told
	r.told = nil
	if r.fault.Err == nil {
		return rows, nil
	}
	fault := r.fault
	return rows, &fault
}

func (r *Reader) fail(err error, at place) {
	r.fault = Fault{Line: at.line, Column: at.column, Err: err}
	r.row = row{}
}

func (r *Reader) beginRow(c int) {
	switch {
	case c == end:
	case r.rows == api.MaxRows:
		r.fail(ErrRows, r.here)
	default:
		r.beginCell(c)
	}
}

func (r *Reader) beginCell(c int) {
	if c == '"' {
		r.opened = r.here
		r.next = r.quoted
		return
	}
	r.next = r.plain
	r.plain(c)
}

func (r *Reader) plain(c int) {
	switch {
	case c == ',' || c == '\r' || c == end:
		r.endCell(c)
	case c == '\n':
		r.fail(ErrLine, r.here)
	case c == '"':
		r.fail(ErrQuote, r.here)
	case c == '\t' || !mayStand(byte(c)):
		r.fail(ErrByte, r.here)
	default:
		r.add(c)
	}
}

func (r *Reader) quoted(c int) {
	switch {
	case c == end:
		r.fail(ErrOpen, r.opened)
	case c == '"':
		r.next = r.behindQuote
	case !mayStand(byte(c)):
		r.fail(ErrByte, r.here)
	default:
		r.add(c)
	}
}

// behindQuote is where a " in a quoted cell may have been its end, or the first of two.
func (r *Reader) behindQuote(c int) {
	switch c {
	case '"':
		r.next = r.quoted
		r.add(c)
	case ',', '\r', end:
		r.endCell(c)
	case '\n':
		r.fail(ErrLine, r.here)
	default:
		r.fail(ErrQuote, r.here)
	}
}

func (r *Reader) behindReturn(c int) {
	if c != '\n' {
		r.fail(ErrLine, r.ended)
		return
	}
	r.endRow(r.ended)
}

func (r *Reader) add(c int) {
	if r.row.Len() == api.MaxCell {
		r.fail(ErrCell, r.here)
		return
	}
	r.row.WriteByte(byte(c))
}

// endCell takes what stands behind the cell: a comma, a CR or the text's end.
func (r *Reader) endCell(c int) {
	r.row.endCell()
	switch {
	case c == end:
		r.endRow(r.here)
	case c == '\r':
		r.ended = r.here
		r.next = r.behindReturn
	case len(r.row.cells) == api.MaxCells:
		r.fail(ErrCells, r.here)
	default:
		r.next = r.beginCell
	}
}

func (r *Reader) endRow(at place) {
	if r.rows > 0 && len(r.row.cells) != r.width {
		r.fail(ErrRagged, at)
		return
	}
	r.rows++
	r.width = len(r.row.cells)
	r.told = append(r.told, r.row.cells)
	r.row = row{}
	r.next = r.beginRow
}
