package sheet_test

import (
	"iter"
	"slices"
	"strings"
	"testing"
	"unsafe"

	"larder/api"
	"larder/sheet"
)

// Rule R4: what is handed in is neither changed, spare room included, nor kept; answers share no memory.

// roomy answers a copy with spare room behind it that is filled.
func roomy[T any](l []T, fill T) []T {
	given := append(make([]T, 0, len(l)+8), l...)
	room := given[:cap(given)]
	for i := len(l); i < len(room); i++ {
		room[i] = fill
	}
	return given
}

// watched is a list of lists with spare room behind all of them, and a copy of all of that.
type watched[T comparable] struct{ given, before [][]T }

func watch[T comparable](lists [][]T, fill T) watched[T] {
	given := roomy(lists, []T{fill})
	for i := range given {
		given[i] = roomy(given[i], fill)
	}
	w := watched[T]{given: given}
	for _, l := range given[:cap(given)] {
		w.before = append(w.before, slices.Clone(l[:cap(l)]))
	}
	return w
}

func (w watched[T]) check(t *testing.T, name string) {
	t.Helper()
	for i, l := range w.given[:cap(w.given)] {
		if !slices.Equal(l[:cap(l)], w.before[i]) {
			t.Errorf("%s: what was handed in has changed", name)
		}
	}
}

func someColumns() []api.Column {
	return []api.Column{text("t"), {Name: "n", Kind: api.CellInt}, {Name: "o", Kind: api.CellCode}}
}

func TestR4ListsAreNotChanged(t *testing.T) {
	for _, rows := range [][][]string{
		nil, {{"t", "n", "o"}}, {{"o", "x", "n", "t"}, {"12345670", "", "7", "a,\"b"}, {"", "", "", ""}}, {{"t", "n", "o"}, {"a", "x", ""}}, {{"t"}, {}}, {{"\x00"}}, slices.Repeat([][]string{{strings.Repeat("x", 4096)}}, 64),
	} {
		w, c := watch(rows, "spare"), watch([][]api.Column{someColumns()}, text("spare"))
		sheet.Print(w.given)
		sheet.Typed(w.given, c.given[0])
		w.check(t, "rows")
		c.check(t, "columns of Typed")
	}
	for _, cells := range [][][]api.Cell{
		nil, {{{}, {}, {}}, {{Kind: api.CellText, Text: "a"}, {Kind: api.CellInt, Num: 7}, {Kind: api.CellCode, Text: "00000012345670"}}}, {{{}, {Num: 1}, {}}}, {{}},
	} {
		w, c := watch(cells, api.Cell{Num: 9}), watch([][]api.Column{someColumns()}, text("spare"))
		sheet.Shown(w.given, c.given[0])
		w.check(t, "cells")
		c.check(t, "columns of Shown")
	}
}

func TestR4BytesAreNotChangedAndNotKept(t *testing.T) {
	text := "ab,\"c\"\"d\"\r\nef,gh\r\nij,k"
	for size := 1; size <= len(text); size++ {
		r := sheet.NewReader()
		var rows [][]string
		for from, to := range chunks(len(text), size) {
			w := watch([][]byte{[]byte(text[from:to])}, '#')
			got, err := r.Feed(w.given[0])
			if err != nil {
				t.Fatal(err)
			}
			w.check(t, "bytes")
			p := w.given[0][:cap(w.given[0])]
			for i := range p {
				p[i] = 0
			}
			rows = append(rows, got...)
		}
		last, err := r.Close()
		if rows = append(rows, last...); err != nil || !same(rows, [][]string{{"ab", "c\"d"}, {"ef", "gh"}, {"ij", "k"}}) {
			t.Errorf("pieces of %d: %q, %v", size, rows, err)
		}
	}
}

func chunks(length, size int) iter.Seq2[int, int] {
	return func(yield func(from, to int) bool) {
		for at := 0; at < length; at += size {
			if !yield(at, min(length, at+size)) {
				return
			}
		}
	}
}

// scribble writes over each list of an answer, spare room included, and then over their list; no list may show what was written into another.
func scribble[T comparable](t *testing.T, name string, lists [][]T, mark func(i int) T) {
	t.Helper()
	for i, l := range lists {
		for j := range l[:cap(l)] {
			l[:cap(l)][j] = mark(i)
		}
	}
	for i, l := range lists {
		for _, x := range l[:cap(l)] {
			if x != mark(i) {
				t.Errorf("%s: two lists share memory", name)
			}
		}
	}
	clear(lists[:cap(lists)])
}

func TestR4EveryListIsNew(t *testing.T) {
	rows := [][]string{{"t", "n", "o"}, {"a", "7", "12345670"}, {"b", "", ""}, {"c", "8", ""}}
	whole, _ := sheet.Print(rows)
	cells := [][]api.Cell{{{Kind: api.CellText, Text: "a"}, {Kind: api.CellInt, Num: 7}, {Kind: api.CellCode, Text: "00000012345670"}}, {{Kind: api.CellText, Text: "b"}, {}, {}}, {{Kind: api.CellText, Text: "c"}, {Kind: api.CellInt, Num: 8}, {}}}
	label := func(i int) string { return strings.Repeat("#", i+1) }
	number := func(i int) api.Cell { return api.Cell{Num: i + 100} }
	for range 2 {
		one, _ := sheet.Parse(whole)
		two, _ := sheet.Parse(whole)
		scribble(t, "Parse", one, label)
		typed, _ := sheet.Typed(rows, someColumns())
		also, _ := sheet.Typed(rows, someColumns())
		scribble(t, "Typed", typed, number)
		shown, _ := sheet.Shown(cells, someColumns())
		again, _ := sheet.Shown(cells, someColumns())
		scribble(t, "Shown", shown, label)
		if !same(two, rows) || !sameCells(also, cells) || !same(again, rows) {
			t.Errorf("answers share memory: %q, %v, %q", two, also, again)
		}
	}
}

func TestR4RowsOfAReaderAreNew(t *testing.T) {
	r := sheet.NewReader()
	label := func(i int) string { return strings.Repeat("#", i+1) }
	rows, _ := r.Feed([]byte("a,b\r\nc,d\r\ne"))
	scribble(t, "Feed", rows, label)
	more, err := r.Feed([]byte(",f\r\ng,"))
	if !same(more, [][]string{{"e", "f"}}) || err != nil {
		t.Errorf("%q, %v", more, err)
	}
	scribble(t, "Feed", more, label)
	last, err := r.Close()
	if !same(last, [][]string{{"g", ""}}) || err != nil {
		t.Errorf("%q, %v", last, err)
	}
}

func TestR4FaultsAreNew(t *testing.T) {
	r := sheet.NewReader()
	spoilt := func(err error) {
		if f, ok := err.(*sheet.Fault); ok {
			*f = sheet.Fault{}
		}
	}
	for range 3 {
		_, err := r.Feed([]byte("a\n"))
		wantFault(t, "Feed", err, fault{sheet.ErrLine, 1, 1})
		spoilt(err)
	}
	_, err := r.Close()
	wantFault(t, "Close", err, fault{sheet.ErrLine, 1, 1})
	for range 3 {
		_, err := r.Close()
		wantFault(t, "Close", err, fault{sheet.ErrDone, 0, 0})
		spoilt(err)
		_, err = r.Feed(nil)
		wantFault(t, "Feed", err, fault{sheet.ErrDone, 0, 0})
		spoilt(err)
	}
	for range 2 {
		for _, x := range failing() {
			err := x.call()
			wantFault(t, "again", err, x.want)
			if w, ok := err.(*sheet.Fault).Err.(*sheet.Why); ok {
				*w = sheet.Why{}
			}
			spoilt(err)
		}
	}
}

// share answers a text whose bytes can be written over, as no holder of a text should.
func share(text string) ([]byte, string) {
	b := []byte(text)
	return b, unsafe.String(unsafe.SliceData(b), len(b))
}

func TestR4TextsAreNotKept(t *testing.T) {
	code := "10036000291459"
	for name, x := range map[string]struct {
		text, want string
		call       func(s string) string
	}{
		"Parse":        {"ab\r\n", "ab", func(s string) string { l, _ := sheet.Parse(s); return l[0][0] }},
		"Parse quoted": {"\"ab\"", "ab", func(s string) string { l, _ := sheet.Parse(s); return l[0][0] }},
		"Print":        {"ab", "ab\r\n", func(s string) string { text, _ := sheet.Print([][]string{{s}}); return text }},
		"Typed text":   {"ab", "ab", func(s string) string { c, _ := readCell(api.CellText, s); return c.Text }},
		"Typed code":   {code, code, func(s string) string { c, _ := readCell(api.CellCode, s); return c.Text }},
		"Shown head":   {"ab", "ab", func(s string) string { l, _ := sheet.Shown(nil, []api.Column{text(s)}); return l[0][0] }},
		"Shown text": {"ab", "ab", func(s string) string {
			l, _ := sheet.Shown([][]api.Cell{{{Kind: api.CellText, Text: s}}}, []api.Column{text("x")})
			return l[1][0]
		}},
		"Shown code": {code, code, func(s string) string {
			l, _ := sheet.Shown([][]api.Cell{{{Kind: api.CellCode, Text: s}}}, []api.Column{{Name: "x", Kind: api.CellCode}})
			return l[1][0]
		}},
	} {
		bytes, text := share(x.text)
		got := x.call(text)
		clear(bytes)
		if got != x.want {
			t.Errorf("%s: %q, want %q", name, got, x.want)
		}
	}
}

func TestR3NilAndEmpty(t *testing.T) {
	columns := []api.Column{text("x")}
	for _, rows := range [][][]string{nil, {}} {
		wantPrinted(t, "no rows", rows, "", fault{})
		wantTypedFault(t, "no rows", rows, columns, sheet.ErrMissing, 1, 0)
	}
	for _, cells := range [][][]api.Cell{nil, {}} {
		wantShown(t, "no rows", cells, columns, [][]string{{"x"}}, fault{})
	}
	for _, row := range [][]string{nil, {}} {
		wantPrintFault(t, "no cells", [][]string{row}, sheet.ErrCells, 1, 0)
	}
	for _, row := range [][]api.Cell{nil, {}} {
		wantShownFault(t, "no cells", [][]api.Cell{row}, columns, sheet.ErrRagged, 2, 0)
	}
}
