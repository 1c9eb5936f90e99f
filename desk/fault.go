package desk

import (
	"errors"
	"strconv"
)

// The errors that a Fault wraps.
var (
	ErrLong    = errors.New("the text is too long")
	ErrByte    = errors.New("this byte may not stand here")
	ErrWords   = errors.New("too few words, or too many")
	ErrCommand = errors.New("there is no such command")
	ErrDesk    = errors.New("the desk does not know this")
	ErrNumber  = errors.New("this is no such number")
)

// Fault says where the fault of a script is.
type Fault struct {
	Line   int
	Column int
	Err    error
}

// Error tells the place ahead of what is wrong.
func (f *Fault) Error() string {
	if f == nil {
		return ""
	}
	text := "line " + strconv.Itoa(f.Line) + " column " + strconv.Itoa(f.Column) + ": "
	if f.Err == nil {
		return text
	}
	return text + f.Err.Error()
}

// Unwrap answers what is wrong at the place.
func (f *Fault) Unwrap() error {
	if f == nil {
		return nil
	}
	return f.Err
}

// onLine lays the fault of a line, which knows its column alone, on the line's number.
func onLine(err error, line int) error {
	var f *Fault
	if errors.As(err, &f) {
		f.Line = line
	}
	return err
}
