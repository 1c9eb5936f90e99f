package lock_test

import (
	"math"
	"testing"

	"larder/api"
	"larder/lock"
)

func TestP8_2New(t *testing.T) {
	for stripes := 1; stripes <= api.MaxStripes; stripes++ {
		x := newTable(t, stripes)
		if got := x.Stripes(); got != stripes {
			t.Errorf("Stripes: %d, want %d", got, stripes)
		}
		for s := range stripes {
			wantStripe(t, x, s, -1, 0, 0)
			wantTicket(t, x, s, 0, api.OK)
		}
		wantTicket(t, x, stripes, 0, api.ErrStripe)
	}
}

func TestP8_2NoSuchTable(t *testing.T) {
	for _, stripes := range []int{0, -1, api.MaxStripes + 1, math.MinInt, math.MaxInt, 1<<32 + 1} {
		if x, e := lock.New(stripes); x != nil || e != api.ErrArg {
			t.Errorf("New(%d): %v, %d", stripes, x, e)
		}
	}
}

func TestP8_3Tickets(t *testing.T) {
	x := newTable(t, 3)
	for i := range 100 {
		wantTicket(t, x, 2, i, api.OK)
	}
	wantTicket(t, x, 0, 0, api.OK)
	wantStripe(t, x, 0, 0, 0, 1)
	wantStripe(t, x, 1, -1, 0, 0)
	wantStripe(t, x, 2, 0, 0, 100)
	wantErrno(t, "Leave", x.Leave(2, 0), api.OK)
	wantStripe(t, x, 2, 1, 0, 99)
	wantTicket(t, x, 2, 100, api.OK)
	wantStripe(t, x, 2, 1, 0, 100)
	wantStripe(t, x, 0, 0, 0, 1)
}

// A ticket's number is not given again when all were left.
func TestP8_3TicketsGoOn(t *testing.T) {
	x := newTable(t, 1)
	for i := range 10 {
		wantTicket(t, x, 0, i, api.OK)
		wantErrno(t, "Leave", x.Leave(0, i), api.OK)
		wantStripe(t, x, 0, -1, 0, 0)
		wantServed(t, x, 0, i, false)
		wantServed(t, x, 0, i+1, false)
	}
}

func TestP8_3NoSuchStripe(t *testing.T) {
	for _, stripes := range []int{1, 2, api.MaxStripes} {
		x := newTable(t, stripes)
		for s := range stripes {
			wantTicket(t, x, s, 0, api.OK)
		}
		for _, s := range []int{-1, stripes, stripes + 1, math.MinInt, math.MaxInt} {
			wantTicket(t, x, s, 0, api.ErrStripe)
			for _, ticket := range []int{0, 1, -1, math.MinInt, math.MaxInt} {
				wantErrno(t, "Leave", x.Leave(s, ticket), api.ErrStripe)
				wantErrno(t, "Odd", x.Odd(s, ticket), api.ErrStripe)
				wantErrno(t, "Even", x.Even(s, ticket), api.ErrStripe)
				wantServed(t, x, s, ticket, false)
			}
			if x.Seq(s) != 0 || x.Waiting(s) != 0 {
				t.Errorf("stripe %d of %d: %d, %d", s, stripes, x.Seq(s), x.Waiting(s))
			}
		}
		for s := range stripes {
			wantStripe(t, x, s, 0, 0, 1)
		}
		wantTicket(t, x, stripes-1, 1, api.OK)
	}
}

// wantNotServed asks for all that a ticket may ask for whose turn it is not.
func wantNotServed(t *testing.T, x *lock.Table, s, ticket int) {
	t.Helper()
	wantServed(t, x, s, ticket, false)
	wantErrno(t, "Leave", x.Leave(s, ticket), api.ErrTicket)
	wantErrno(t, "Odd", x.Odd(s, ticket), api.ErrTicket)
	wantErrno(t, "Even", x.Even(s, ticket), api.ErrTicket)
}

func TestP8_3NotTheTicketThatIsServed(t *testing.T) {
	x := newTable(t, 2)
	for i := range 4 {
		wantTicket(t, x, 1, i, api.OK)
	}
	wantErrno(t, "Leave", x.Leave(1, 0), api.OK)
	left, waits, never := []int{0}, []int{2, 3}, []int{4, 5, -1, math.MinInt, math.MaxInt, 1 + 1<<32}
	for _, l := range [][]int{left, waits, never} {
		for _, ticket := range l {
			wantNotServed(t, x, 1, ticket)
		}
	}
	wantNotServed(t, x, 0, 0)
	wantStripe(t, x, 1, 1, 0, 3)

	wantErrno(t, "Odd", x.Odd(1, 1), api.OK)
	for _, l := range [][]int{left, waits, never} {
		for _, ticket := range l {
			wantNotServed(t, x, 1, ticket)
		}
	}
	wantStripe(t, x, 1, 1, 1, 3)
}

// If all that were given were left, the ticket that comes next is not served yet.
func TestP8_3NoneIsServed(t *testing.T) {
	x := newTable(t, 1)
	wantNotServed(t, x, 0, 0)
	wantTicket(t, x, 0, 0, api.OK)
	wantErrno(t, "Leave", x.Leave(0, 0), api.OK)
	wantNotServed(t, x, 0, 0)
	wantNotServed(t, x, 0, 1)
	wantStripe(t, x, 0, -1, 0, 0)
}

func TestP8_3OddAndEven(t *testing.T) {
	x := newTable(t, 2)
	wantTicket(t, x, 0, 0, api.OK)
	wantTicket(t, x, 1, 0, api.OK)
	for i := range 5 {
		wantErrno(t, "Even of an even counter", x.Even(0, 0), api.ErrOdd)
		wantStripe(t, x, 0, 0, 2*i, 1)
		wantErrno(t, "Odd", x.Odd(0, 0), api.OK)
		wantStripe(t, x, 0, 0, 2*i+1, 1)
		wantErrno(t, "Odd of an odd counter", x.Odd(0, 0), api.ErrOdd)
		wantErrno(t, "Leave with an odd counter", x.Leave(0, 0), api.ErrOdd)
		wantStripe(t, x, 0, 0, 2*i+1, 1)
		wantErrno(t, "Even", x.Even(0, 0), api.OK)
		wantStripe(t, x, 0, 0, 2*i+2, 1)
	}
	wantStripe(t, x, 1, 0, 0, 1)
	wantErrno(t, "Leave", x.Leave(0, 0), api.OK)
	wantStripe(t, x, 0, -1, 10, 0)
}

// A ticket may be taken while another one has begun a change.
func TestP8_3TicketWhileOdd(t *testing.T) {
	x := newTable(t, 1)
	wantTicket(t, x, 0, 0, api.OK)
	wantErrno(t, "Odd", x.Odd(0, 0), api.OK)
	wantTicket(t, x, 0, 1, api.OK)
	wantStripe(t, x, 0, 0, 1, 2)
	wantErrno(t, "Even", x.Even(0, 0), api.OK)
	wantErrno(t, "Leave", x.Leave(0, 0), api.OK)
	wantStripe(t, x, 0, 1, 2, 1)
}

func TestP8_3AllTicketsGiven(t *testing.T) {
	if testing.Short() {
		t.Skip("more than a billion calls")
	}
	x := newTable(t, 2)
	for i := range api.MaxTickets {
		if n, e := x.Ticket(1); n != i || e != api.OK {
			t.Fatalf("ticket %d: %d, %d", i, n, e)
		}
	}
	wantTicket(t, x, 1, 0, api.ErrFull)
	wantTicket(t, x, 2, 0, api.ErrStripe)
	wantTicket(t, x, 0, 0, api.OK)
	if got := x.Waiting(1); got != api.MaxTickets {
		t.Errorf("Waiting: %d", got)
	}
	// Those that were left were given all the same.
	wantErrno(t, "Leave", x.Leave(1, 0), api.OK)
	wantTicket(t, x, 1, 0, api.ErrFull)
	wantServed(t, x, 1, 1, true)
	if got := x.Waiting(1); got != api.MaxTickets-1 {
		t.Errorf("Waiting behind a Leave: %d", got)
	}
}

func TestP8_7NilTable(t *testing.T) {
	var x *lock.Table
	for _, s := range []int{0, 1, -1, api.MaxStripes, math.MinInt, math.MaxInt} {
		wantTicket(t, x, s, 0, api.OK)
		for _, ticket := range []int{0, 1, -1, math.MinInt, math.MaxInt} {
			wantErrno(t, "Odd", x.Odd(s, ticket), api.OK)
			wantErrno(t, "Even", x.Even(s, ticket), api.OK)
			wantErrno(t, "Leave", x.Leave(s, ticket), api.OK)
			wantServed(t, x, s, ticket, false)
		}
		if x.Seq(s) != 0 || x.Waiting(s) != 0 {
			t.Errorf("stripe %d: %d, %d", s, x.Seq(s), x.Waiting(s))
		}
	}
	if got := x.Stripes(); got != 0 {
		t.Errorf("Stripes: %d", got)
	}
}

func TestR1TableThatNewDidNotMake(t *testing.T) {
	var x lock.Table
	wantTicket(t, &x, 0, 0, api.ErrStripe)
	wantErrno(t, "Leave", x.Leave(0, 0), api.ErrStripe)
	wantErrno(t, "Odd", x.Odd(0, 0), api.ErrStripe)
	wantErrno(t, "Even", x.Even(0, 0), api.ErrStripe)
	wantStripe(t, &x, 0, -1, 0, 0)
	if got := x.Stripes(); got != 0 {
		t.Errorf("Stripes: %d", got)
	}
}
