package lock_test

import (
	"testing"

	"larder/api"
	"larder/lock"
)

func newTable(t *testing.T, stripes int) *lock.Table {
	t.Helper()
	x, e := lock.New(stripes)
	if x == nil || e != api.OK {
		t.Fatalf("New(%d): %v, %d", stripes, x, e)
	}
	return x
}

func wantErrno(t *testing.T, name string, got, want api.Errno) {
	t.Helper()
	if got != want {
		t.Errorf("%s: %d, want %d", name, got, want)
	}
}

func wantTicket(t *testing.T, x *lock.Table, s, want int, wantErrno api.Errno) {
	t.Helper()
	if n, e := x.Ticket(s); n != want || e != wantErrno {
		t.Errorf("Ticket(%d): %d, %d; want %d, %d", s, n, e, want, wantErrno)
	}
}

func wantServed(t *testing.T, x *lock.Table, s, ticket int, want bool) {
	t.Helper()
	if got := x.Served(s, ticket); got != want {
		t.Errorf("Served(%d, %d): %t", s, ticket, got)
	}
}

// wantStripe holds a stripe against the ticket that is served (-1: none), its counter and how many wait.
func wantStripe(t *testing.T, x *lock.Table, s, served, seq, waiting int) {
	t.Helper()
	for n := -2; n < served+waiting+3; n++ {
		wantServed(t, x, s, n, n == served && n >= 0)
	}
	if got := x.Seq(s); got != seq {
		t.Errorf("Seq(%d): %d, want %d", s, got, seq)
	}
	if got := x.Waiting(s); got != waiting {
		t.Errorf("Waiting(%d): %d, want %d", s, got, waiting)
	}
}

// model has the tickets of one stripe as a list: those that were given and not left, in their order.
type model struct {
	line  []int
	next  int
	begun []int // changes: the tickets that began them
	ended int
}

func (m *model) serves(ticket int) bool {
	return len(m.line) > 0 && m.line[0] == ticket
}

func (m *model) changing() bool {
	return len(m.begun) > m.ended
}

func (m *model) ticket() int {
	m.line = append(m.line, m.next)
	m.next++
	return m.next - 1
}

func (m *model) leave(ticket int) api.Errno {
	switch {
	case !m.serves(ticket):
		return api.ErrTicket
	case m.changing():
		return api.ErrOdd
	}
	m.line = m.line[1:]
	return api.OK
}

func (m *model) odd(ticket int) api.Errno {
	switch {
	case !m.serves(ticket):
		return api.ErrTicket
	case m.changing():
		return api.ErrOdd
	}
	m.begun = append(m.begun, ticket)
	return api.OK
}

func (m *model) even(ticket int) api.Errno {
	switch {
	case !m.serves(ticket):
		return api.ErrTicket
	case !m.changing():
		return api.ErrOdd
	}
	m.ended++
	return api.OK
}

func (m *model) seq() int {
	return len(m.begun) + m.ended
}
