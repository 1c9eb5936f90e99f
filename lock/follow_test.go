package lock_test

import (
	"math/rand"
	"slices"
	"testing"

	"larder/api"
	"larder/lock"
)

// pair is a table and what a slow one has become by the same calls.
type pair struct {
	t       *testing.T
	x       *lock.Table
	stripes []*model
	served  [][]int // of each stripe: the tickets that were served, in the order in which they came to be
}

func newPair(t *testing.T, stripes int) *pair {
	p := &pair{t: t, x: newTable(t, stripes), served: make([][]int, stripes)}
	for range stripes {
		p.stripes = append(p.stripes, &model{})
	}
	return p
}

// do plays one call: 0 Ticket, 1 Leave, 2 Odd, 3 Even.
func (p *pair) do(call, s, ticket int) {
	p.t.Helper()
	m := p.stripes[s]
	switch call {
	case 0:
		wantTicket(p.t, p.x, s, m.ticket(), api.OK)
	case 1:
		wantErrno(p.t, "Leave", p.x.Leave(s, ticket), m.leave(ticket))
	case 2:
		wantErrno(p.t, "Odd", p.x.Odd(s, ticket), m.odd(ticket))
	case 3:
		wantErrno(p.t, "Even", p.x.Even(s, ticket), m.even(ticket))
	}
	p.look()
}

// look asks what follows of each stripe: at most one ticket is served, the first of those that wait; the counter is odd as long as a change goes on.
func (p *pair) look() {
	p.t.Helper()
	for s, m := range p.stripes {
		var served []int
		for n := -1; n <= m.next+1; n++ {
			if p.x.Served(s, n) {
				served = append(served, n)
			}
		}
		if !slices.Equal(served, m.line[:min(1, len(m.line))]) {
			p.t.Fatalf("stripe %d: %v are served, of %v", s, served, m.line)
		}
		for _, n := range served {
			if l := p.served[s]; len(l) == 0 || l[len(l)-1] != n {
				p.served[s] = append(l, n)
			}
		}
		if got := p.x.Waiting(s); got != len(m.line) {
			p.t.Fatalf("stripe %d: %d wait, want %d", s, got, len(m.line))
		}
		if got := p.x.Seq(s); got != m.seq() || got%2 == 1 != m.changing() {
			p.t.Fatalf("stripe %d: counter %d, want %d", s, got, m.seq())
		}
	}
}

// inOrder: the tickets of each stripe were served in the order in which they were given, none left out.
func (p *pair) inOrder() {
	p.t.Helper()
	for s, l := range p.served {
		for i, n := range l {
			if n != i {
				p.t.Fatalf("stripe %d: served were %v", s, l)
			}
		}
	}
}

func TestP8_4AllShortScripts(t *testing.T) {
	const calls, depth = 10, 5 // Ticket, and Leave, Odd, Even with each of three tickets
	scripts := 1
	for range depth {
		scripts *= calls
	}
	for n := range scripts {
		p := newPair(t, 1)
		for i, rest := 0, n; i < depth; i, rest = i+1, rest/calls {
			call := rest % calls
			p.do((call+2)/3, 0, (call+2)%3)
		}
		p.inOrder()
	}
}

func TestP8_4ManyScripts(t *testing.T) {
	r := rand.New(rand.NewSource(3))
	for range 300 {
		p := newPair(t, 1+r.Intn(4))
		for range 150 {
			s := r.Intn(len(p.stripes))
			m := p.stripes[s]
			ticket := m.next - len(m.line)
			if r.Intn(4) == 0 {
				ticket = r.Intn(m.next+3) - 1
			}
			p.do(r.Intn(4), s, ticket)
		}
		p.inOrder()
	}
}

// Whoever has k tickets ahead of its own is served behind k Leaves, whatever else is called.
func TestP8_4BehindKLeaves(t *testing.T) {
	r := rand.New(rand.NewSource(4))
	for range 300 {
		x := newTable(t, 1)
		ahead := r.Intn(10)
		for i := range ahead {
			wantTicket(t, x, 0, i, api.OK)
		}
		wantTicket(t, x, 0, ahead, api.OK)
		for leaves := 0; leaves < ahead; leaves++ {
			wantServed(t, x, 0, ahead, false)
			for range r.Intn(3) {
				x.Ticket(0)
				x.Odd(0, leaves)
				x.Even(0, leaves)
			}
			wantErrno(t, "Leave", x.Leave(0, leaves), api.OK)
		}
		wantServed(t, x, 0, ahead, true)
	}
}

// A reader that reads the same even number twice has missed no change: each one that was begun in between, ended or not, shows.
func TestP8_4SameEvenNumber(t *testing.T) {
	r := rand.New(rand.NewSource(5))
	x := newTable(t, 1)
	m := &model{}
	var seqs, begun []int
	for range 2000 {
		ticket := m.next - len(m.line)
		switch r.Intn(4) {
		case 0:
			x.Ticket(0)
			m.ticket()
		case 1:
			x.Leave(0, ticket)
			m.leave(ticket)
		case 2:
			x.Odd(0, ticket)
			m.odd(ticket)
		case 3:
			x.Even(0, ticket)
			m.even(ticket)
		}
		seqs, begun = append(seqs, x.Seq(0)), append(begun, len(m.begun))
	}
	for i := range seqs {
		for j := i; j < min(len(seqs), i+50); j++ {
			if seqs[i] == seqs[j] && seqs[i]%2 == 0 && begun[i] != begun[j] {
				t.Fatalf("%d at %d and at %d: %d and %d changes", seqs[i], i, j, begun[i], begun[j])
			}
		}
	}
}

// clerk takes the stripes of its set in rising order, changes what lies under them and leaves them all.
type clerk struct {
	set     []int
	tickets []int
	calls   []func(x *lock.Table) api.Errno // those that are still to be made when all stripes are taken
	full    bool
}

func (c *clerk) ended() bool {
	return c.full && len(c.calls) == 0
}

// waits: its next call is one for which it must be served first.
func (c *clerk) waits(x *lock.Table) bool {
	n := len(c.tickets)
	return !c.full && n > 0 && !x.Served(c.set[n-1], c.tickets[n-1])
}

func (c *clerk) step(t *testing.T, x *lock.Table) {
	t.Helper()
	switch {
	case len(c.calls) > 0:
		wantErrno(t, "a clerk's call", c.calls[0](x), api.OK)
		c.calls = c.calls[1:]
	case len(c.tickets) < len(c.set):
		n, e := x.Ticket(c.set[len(c.tickets)])
		wantErrno(t, "a clerk's ticket", e, api.OK)
		c.tickets = append(c.tickets, n)
	default:
		c.full = true
		c.plan()
	}
}

func (c *clerk) plan() {
	calls := []func(*lock.Table, int, int) api.Errno{(*lock.Table).Odd, (*lock.Table).Even, (*lock.Table).Leave}
	for _, call := range calls {
		for i, s := range c.set {
			c.calls = append(c.calls, func(x *lock.Table) api.Errno { return call(x, s, c.tickets[i]) })
		}
	}
}

func TestP8_4NeverInARing(t *testing.T) {
	r := rand.New(rand.NewSource(6))
	for range 500 {
		stripes := 1 + r.Intn(5)
		x := newTable(t, stripes)
		var work []*clerk
		for range 2 + r.Intn(6) {
			work = append(work, &clerk{set: lock.Set(someKeys(r, 1+r.Intn(5)), stripes)})
		}
		for len(work) > 0 {
			var free []*clerk
			for _, c := range work {
				if !c.waits(x) {
					free = append(free, c)
				}
			}
			if len(free) == 0 {
				t.Fatalf("all of %d wait", len(work))
			}
			free[r.Intn(len(free))].step(t, x)
			work = slices.DeleteFunc(work, (*clerk).ended)
		}
		for s := range stripes {
			if x.Waiting(s) != 0 || x.Seq(s)%2 != 0 {
				t.Errorf("stripe %d: %d wait, counter %d", s, x.Waiting(s), x.Seq(s))
			}
		}
	}
}
