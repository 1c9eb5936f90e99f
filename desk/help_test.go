package desk_test

import (
	"errors"
	"fmt"
	"math"
	"reflect"
	"strings"
	"testing"

	"larder/api"
	"larder/desk"
	"larder/gtin"
	"larder/stock"
)

const (
	greatest = math.MaxInt
	least    = math.MinInt

	goodA = "12345670" // trade codes
	goodB = "96385074"
)

func want[T comparable](t *testing.T, name string, got, want T) {
	t.Helper()
	if got != want {
		t.Errorf("%s: %v, want %v", name, got, want)
	}
}

// show answers a thing in words, as many of them as one can read.
func show(v any) string { return fmt.Sprintf("%.1500s", fmt.Sprintf("%+v", v)) }

// Stores.

// plain is the configuration of the document's examples.
func plain() api.Config {
	return api.Config{Codes: []string{goodA, goodB}, Stripes: 4, Handlers: 2, Sectors: 60, Slot: 10}
}

// roomy has a log and slots that a test does not fill.
func roomy(handlers int, codes ...string) api.Config {
	return api.Config{Codes: codes, Stripes: 16, Handlers: handlers, Sectors: 2400, Slot: 700}
}

// single has one desk, at which all is done in the order in which it comes.
func single() api.Config { return roomy(1, goodA, goodB) }

// brief has a log of one sector: behind one effect all others are told ErrBusy until a checkpoint is made.
func brief() api.Config {
	return api.Config{Codes: []string{goodA, goodB}, Stripes: 4, Handlers: 2, Sectors: 41, Slot: 20}
}

// trade answers the n-th of many trade codes, which rise.
func trade(n int) string {
	body := fmt.Sprintf("%07d", 1000000+n)
	digit, e := gtin.Digit(body)
	if e != api.OK {
		panic(body)
	}
	return body + string(digit)
}

// trades answers the first of them.
func trades(n int) []string {
	var l []string
	for i := range n {
		l = append(l, trade(i))
	}
	return l
}

func opened(t *testing.T, c api.Config) *desk.Desk {
	t.Helper()
	d, e := desk.Open(c)
	if d == nil || e != api.OK {
		t.Fatalf("Open(%s): %v, %d", show(c), d, e)
	}
	return d
}

func do(t *testing.T, d *desk.Desk, script string) string {
	t.Helper()
	text, err := d.Do(script)
	if err != nil {
		t.Fatalf("Do(%.200q): %q, %v", script, text, err)
	}
	return text
}

func wantDo(t *testing.T, d *desk.Desk, script, want string) {
	t.Helper()
	if got := do(t, d, script); got != want {
		t.Errorf("Do(%.400q):\n%swant\n%s", script, got, want)
	}
}

// wantLines asks for answers in which the picks of a run are not known ahead: a * stands for digits.
func wantLines(t *testing.T, d *desk.Desk, script string, want ...string) {
	t.Helper()
	got := do(t, d, script)
	if !fits(got, strings.Join(append(want, ""), "\n")) {
		t.Errorf("Do(%.400q):\n%swant\n%s", script, got, strings.Join(want, "\n"))
	}
}

// fits says whether a text is a form in which each * stands for a number.
func fits(text, form string) bool {
	parts := strings.Split(form, "*")
	rest, ok := strings.CutPrefix(text, parts[0])
	for _, part := range parts[1:] {
		number := len(rest) - len(strings.TrimLeft(rest, "0123456789"))
		if !ok || number == 0 {
			return false
		}
		rest, ok = strings.CutPrefix(rest[number:], part)
	}
	return ok && rest == ""
}

// Faults.

// fault is what a test awaits: nothing, or one of the variables at a place.
type fault struct {
	err          error
	line, column int
}

func (f fault) String() string { return fmt.Sprintf("%v, %d, %d", f.err, f.line, f.column) }

func variables() []error {
	return []error{desk.ErrLong, desk.ErrByte, desk.ErrWords, desk.ErrCommand, desk.ErrDesk, desk.ErrNumber}
}

// told answers the fault that an error is: a *Fault, and just one of the variables.
func told(err error) fault {
	var f *desk.Fault
	if !errors.As(err, &f) || f == nil {
		return fault{err: err}
	}
	found := fault{err: err}
	count := 0
	for _, v := range variables() {
		if errors.Is(err, v) {
			found = fault{v, f.Line, f.Column}
			count++
		}
	}
	if count != 1 || f.Err != found.err || f.Unwrap() != found.err || f.Error() != fmt.Sprintf("line %d column %d: %v", f.Line, f.Column, found.err) {
		return fault{err: fmt.Errorf("a fault that is not as said: %w", err)}
	}
	return found
}

// wantFault asks that a script has a fault, and that nothing is done then.
func wantFault(t *testing.T, d *desk.Desk, script string, err error, line, column int) {
	t.Helper()
	text, got := d.Do(script)
	if want := (fault{err, line, column}); text != "" || told(got) != want {
		t.Errorf("Do(%.300q): %q, %v, want %v", script, text, told(got), want)
	}
}

// marked answers a line without its mark |, and the column at which that stood.
func marked(text string) (string, int) {
	ahead, behind, found := strings.Cut(text, "|")
	if !found {
		panic("no mark in " + text)
	}
	return ahead + behind, len(ahead)
}

// Things are held against each other, nil and empty lists alike.

func clean[T any](x T) T {
	out := reflect.New(reflect.TypeOf(x)).Elem()
	copyClean(out, reflect.ValueOf(x))
	return out.Interface().(T)
}

func copyClean(to, from reflect.Value) {
	switch from.Kind() {
	case reflect.Slice:
		if from.Len() > 0 {
			to.Set(reflect.MakeSlice(from.Type(), from.Len(), from.Len()))
		}
		for i := range from.Len() {
			copyClean(to.Index(i), from.Index(i))
		}
	case reflect.Struct:
		for i := range from.NumField() {
			copyClean(to.Field(i), from.Field(i))
		}
	default:
		to.Set(from)
	}
}

func equal[T any](a, b T) bool { return reflect.DeepEqual(clean(a), clean(b)) }

// looks is all that can be seen of a shop without asking its desks.
type looks struct {
	State api.State
	Story api.Story
}

func looksOf(d *desk.Desk) looks { return looks{d.State(), d.Story()} }

func wantSame(t *testing.T, what string, d *desk.Desk, was looks) {
	t.Helper()
	if now := looksOf(d); !equal(now, was) {
		t.Errorf("%s: it is not as it was: %s, was %s", what, show(now), show(was))
	}
}

func ledgerOf(t *testing.T, s api.State) *stock.Ledger {
	t.Helper()
	l, e := stock.From(s)
	if e != api.OK {
		t.Fatalf("not sound: %s", show(s))
	}
	return l
}
