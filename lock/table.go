package lock

import "larder/api"

// Table is the stripes with their tickets and counters.
type Table struct {
	stripes []stripe
}

type stripe struct {
	given int // tickets so far
	left  int // of these: tickets are left in their order, so this is the number of the next one to be served
	seq   int // odd as long as somebody changes what lies under the stripe
}

const (
	even = 0
	odd  = 1
)

// New answers a table of so many stripes, none of which anybody has taken.
func New(stripes int) (*Table, api.Errno) {
	if !isCount(stripes) {
		return nil, api.ErrArg
	}
	return &Table{stripes: make([]stripe, stripes)}, api.OK
}

// Stripes answers how many stripes there are.
func (t *Table) Stripes() int {
	if t == nil {
		return 0
	}
	return len(t.stripes)
}

// Ticket answers the next ticket of a stripe.
func (t *Table) Ticket(s int) (int, api.Errno) {
	if t == nil {
		return 0, api.OK
	}
	p := t.at(s)
	if p == nil {
		return 0, api.ErrStripe
	}
	if p.given == api.MaxTickets {
		return 0, api.ErrFull
	}
	p.given++
	return p.given - 1, api.OK
}

// Served answers whether it is a ticket's turn.
func (t *Table) Served(s int, ticket int) bool {
	p := t.at(s)
	return p != nil && p.serves(ticket)
}

// Leave lets the ticket behind the one that is served have its turn.
func (t *Table) Leave(s int, ticket int) api.Errno {
	if t == nil {
		return api.OK
	}
	p, e := t.holder(s, ticket, even)
	if e == api.OK {
		p.left++
	}
	return e
}

// Odd says that a change begins.
func (t *Table) Odd(s int, ticket int) api.Errno {
	return t.count(s, ticket, even)
}

// Even says that a change has ended.
func (t *Table) Even(s int, ticket int) api.Errno {
	return t.count(s, ticket, odd)
}

// Seq answers a stripe's counter.
func (t *Table) Seq(s int) int {
	p := t.at(s)
	if p == nil {
		return 0
	}
	return p.seq
}

// Waiting answers how many tickets of a stripe were given and not left.
func (t *Table) Waiting(s int) int {
	p := t.at(s)
	if p == nil {
		return 0
	}
	return p.given - p.left
}

// count lets a stripe's counter go up by one, from an odd or an even number, as parity says.
func (t *Table) count(s, ticket, parity int) api.Errno {
	if t == nil {
		return api.OK
	}
	p, e := t.holder(s, ticket, parity)
	if e == api.OK {
		p.seq++
	}
	return e
}

// holder answers the stripe that the ticket may work on, if its counter is odd or even, as parity says.
func (t *Table) holder(s, ticket, parity int) (*stripe, api.Errno) {
	p := t.at(s)
	if p == nil {
		return nil, api.ErrStripe
	}
	if !p.serves(ticket) {
		return nil, api.ErrTicket
	}
	if p.seq%2 != parity {
		return nil, api.ErrOdd
	}
	return p, api.OK
}

// at answers nil where there is no stripe s.
func (t *Table) at(s int) *stripe {
	if t == nil || s < 0 || s >= len(t.stripes) {
		return nil
	}
	return &t.stripes[s]
}

func (p *stripe) serves(ticket int) bool {
	return ticket == p.left && p.left < p.given
}
