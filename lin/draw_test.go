package lin_test

import (
	"math/rand"
	"slices"
	"strconv"
	"testing"

	"larder/api"
	"larder/stock"
)

// drawer draws requests that get in each other's way, and histories of them.
type drawer struct {
	t     *testing.T
	r     *rand.Rand
	tally map[string]int
}

func drawerOf(t *testing.T, seed int) *drawer {
	return &drawer{t, rand.New(rand.NewSource(int64(seed))), map[string]int{}}
}

func (d *drawer) count(is bool, what string) {
	if is {
		d.tally[what]++
	}
}

// wantTally asks that what was drawn was not empty.
func (d *drawer) wantTally(most map[string]int) {
	d.t.Helper()
	for what, n := range most {
		if d.tally[what] < n {
			d.t.Errorf("%s: %d times alone", what, d.tally[what])
		}
	}
}

// start draws a state: with goods and holds, with no numbers left, with little room.
func (d *drawer) start() api.State {
	s := behind(d.t, empty(), restock("0", line("a", d.r.Intn(4)+1), line("b", d.r.Intn(3)+1)))
	if d.r.Intn(2) == 0 {
		s = behind(d.t, s, hold("h", 1+d.r.Intn(9), line("a", 1)), tick("t", d.r.Intn(5)))
	}
	switch d.r.Intn(8) {
	case 0:
		s.Lsn = api.MaxLsn - d.r.Intn(3)
	case 1:
		s.Room = stock.Weight(s) + d.r.Intn(300)
	case 2:
		s.Done = nil
	}
	return s
}

func (d *drawer) id() string { return []string{"h", "i", "j", "k", "0"}[d.r.Intn(5)] }

func (d *drawer) lines(most, qty int) []api.Line {
	var l []api.Line
	for range 1 + d.r.Intn(most) {
		x := line([]string{"a", "a", "b"}[d.r.Intn(3)], 0)
		if qty > 0 {
			x.Qty = 1 + d.r.Intn(qty)
		}
		if d.r.Intn(40) == 0 {
			x.Code = "zz"
		}
		l = append(l, x)
	}
	return l
}

// request draws one of any kind, now and then one that is not well formed.
func (d *drawer) request(n int) api.Request {
	id := d.id()
	if d.r.Intn(3) > 0 {
		id = "q" + strconv.Itoa(n)
	}
	switch d.r.Intn(20) {
	case 0, 1, 2:
		return restock(id, d.lines(2, 4)...)
	case 3, 4:
		return writeoff(id, d.lines(2, 3)...)
	case 5, 6, 7, 8:
		return hold(id, 1+d.r.Intn(9), d.lines(2, 3)...)
	case 9, 10:
		return commit(id, d.id())
	case 11:
		return release(id, d.id())
	case 12:
		return extend(id, d.id(), 1+d.r.Intn(9))
	case 13, 14, 15:
		return api.Request{Id: id, Kind: api.KindRead, Lines: d.lines(3, 0)}
	case 16, 17:
		return tick(id, d.r.Intn(9))
	case 18:
		return save(id)
	}
	return []api.Request{{}, hold(id, 0, line("a", 1)), {Id: id, Kind: 12}, read(id), restock(id, line("a", api.MaxStock))}[d.r.Intn(5)]
}

// work is a request at work in a service.
type work struct {
	op    int
	done  bool
	reply api.Reply
}

// history draws what a service has answered to so many requests, with the order in which they had their points: they come and go side by side, each has its point in between, and at times a crash cuts all off. Moments do not always go on between two events, so that ops touch.
func (d *drawer) history(start api.State, n int) ([]api.Op, []int) {
	l := ledgerOf(d.t, start)
	var ops []api.Op
	var order []int
	var at []*work
	moment := d.r.Intn(2)
	for len(ops) < n || d.r.Intn(12) > 0 {
		if d.r.Intn(3) == 0 {
			moment++
		}
		what := d.r.Intn(20)
		switch {
		case what == 0 && len(ops) > 0:
			for _, w := range at {
				ops[w.op].End = moment
				d.count(w.done, "cut off, with its point")
				d.count(!w.done, "cut off, without")
			}
			at = nil
		case what < 9 && len(ops) < n && len(at) < 5:
			at = append(at, &work{op: len(ops)})
			ops = append(ops, open(d.request(len(ops)), moment, api.MaxMoment))
		case len(at) > 0:
			i := d.r.Intn(len(at))
			w := at[i]
			if !w.done {
				w.done, w.reply = true, l.Do(ops[w.op].Request)
				order = append(order, w.op)
			} else if d.r.Intn(2) == 0 {
				ops[w.op].Open, ops[w.op].Reply, ops[w.op].End = false, w.reply, moment
				at = slices.Delete(at, i, i+1)
			}
		}
	}
	return d.shuffled(ops, order)
}

// shuffled lays a history's ops in another order, at times: the document asks for none.
func (d *drawer) shuffled(ops []api.Op, order []int) ([]api.Op, []int) {
	if d.r.Intn(2) == 0 {
		return ops, order
	}
	place := d.r.Perm(len(ops))
	to := make([]api.Op, len(ops))
	for i, o := range ops {
		to[place[i]] = o
	}
	var laid []int
	for _, i := range order {
		laid = append(laid, place[i])
	}
	return to, laid
}

// spoilt answers a history in which one field of one reply is wrong, if one was told.
func (d *drawer) spoilt(ops []api.Op) []api.Op {
	ops = copyOps(ops)
	for _, i := range d.r.Perm(len(ops)) {
		if ops[i].Open {
			continue
		}
		var l []api.Reply
		m := wrongs(ops[i].Reply)
		for _, name := range slices.Sorted(keys(m)) {
			l = append(l, m[name])
		}
		ops[i].Reply = l[d.r.Intn(len(l))]
		if d.r.Intn(2) == 0 && stock.Changes(ops[i].Request.Kind) { // one that another state would give, with luck
			ops[i].Reply = api.Reply{Id: ops[i].Request.Id, Err: []api.Errno{api.OK, api.ErrStock, api.ErrNoHold}[d.r.Intn(3)]}
		}
		return ops
	}
	return ops
}

func keys[V any](m map[string]V) func(func(string) bool) {
	return func(yield func(string) bool) {
		for k := range m {
			if !yield(k) {
				return
			}
		}
	}
}
