package stock_test

import (
	"math/rand"
	"slices"
	"strconv"
	"testing"

	"larder/api"
	"larder/stock"
)

var goods = []string{"a", "b", "c", "dd", "eee"}

// someLines answers lines that a request of a kind may have, mostly of codes that there are.
func someLines(r *rand.Rand, b *book, kind int) []api.Line {
	var l []api.Line
	for range 1 + r.Intn(1+r.Intn(5)) {
		code := goods[r.Intn(len(goods))]
		if r.Intn(30) == 0 {
			code = "zz"
		}
		qty := 1 + r.Intn(4)
		if v := b.level(code); v != nil && r.Intn(4) == 0 {
			// Just what is free, or can come in, and about that.
			free := v.OnHand - v.Held
			if kind == api.KindRestock {
				free = api.MaxStock - v.OnHand
			}
			qty = max(1, free-1+min(r.Intn(3), api.MaxStock-free+1))
		}
		if kind == api.KindRead {
			qty = 0
		}
		l = append(l, line(code, qty))
	}
	return l
}

// someHold answers the name of a live hold, mostly, or of a remembered request, or of nothing.
func someHold(r *rand.Rand, b *book) string {
	switch n := len(b.s.Holds); {
	case n > 0 && r.Intn(5) > 0:
		return b.s.Holds[r.Intn(n)].Id
	case len(b.s.Done) > 0 && r.Intn(3) > 0:
		return b.s.Done[r.Intn(len(b.s.Done))].Request.Id
	}
	return "nobody"
}

// someClock answers a clock about the present one, about a deadline, or about the moment at which something is forgotten.
func someClock(r *rand.Rand, b *book) int {
	at := b.s.Now + r.Intn(20) - 4
	switch r.Intn(6) {
	case 0:
		if n := len(b.s.Holds); n > 0 {
			at = b.s.Holds[r.Intn(n)].Deadline + r.Intn(3) - 1
		}
	case 1:
		if n := len(b.s.Done); n > 0 && r.Intn(3) == 0 {
			at = b.s.Done[r.Intn(n)].At + 86400 + r.Intn(3) - 1
		}
	}
	return max(0, min(at, api.MaxNow))
}

// again answers a request that is remembered: as it is, with its lines parted and in another order, or with something changed.
func again(r *rand.Rand, d api.Done) api.Request {
	q := copyRequest(d.Request)
	for i := range q.Lines {
		if len(q.Lines) < 32 && q.Lines[i].Qty > 1 && r.Intn(2) == 0 {
			part := 1 + r.Intn(min(q.Lines[i].Qty-1, 1000))
			q.Lines[i].Qty -= part
			q.Lines = append(q.Lines, line(q.Lines[i].Code, part))
		}
	}
	r.Shuffle(len(q.Lines), func(i, j int) { q.Lines[i], q.Lines[j] = q.Lines[j], q.Lines[i] })
	switch r.Intn(8) {
	case 0:
		q.Ttl++
	case 1:
		q.Hold += "x"
	case 2:
		q.Kind = 1 + r.Intn(9)
	case 3:
		if len(q.Lines) > 0 {
			q.Lines[r.Intn(len(q.Lines))].Qty += r.Intn(3) - 1
		}
	case 4:
		q.Now++
	}
	return q
}

// request answers a request of any kind to a ledger that stands as the book does: mostly well formed, often at an edge.
func request(r *rand.Rand, b *book) api.Request {
	if r.Intn(12) == 0 {
		return anyRequest(r)
	}
	if n := len(b.s.Done); n > 0 && r.Intn(5) == 0 {
		return again(r, b.s.Done[r.Intn(n)])
	}
	q := api.Request{Id: "q" + strconv.Itoa(r.Intn(200)), Kind: []int{1, 1, 2, 3, 3, 3, 3, 4, 5, 6, 7, 8, 8, 9}[r.Intn(14)]}
	if n := len(b.s.Holds); n > 0 && q.Kind == api.KindHold {
		// The name of a live hold, above all of one whose request is forgotten.
		id := b.s.Holds[r.Intn(n)].Id
		if r.Intn(8) == 0 || b.remembered(id) == nil && r.Intn(3) > 0 {
			q.Id = id
		}
	}
	fields, _ := uses(q.Kind)
	if has(fields, 'L') {
		q.Lines = someLines(r, b, q.Kind)
	}
	if has(fields, 'H') {
		q.Hold = someHold(r, b)
	}
	if has(fields, 'T') {
		q.Ttl = []int{1, 1 + r.Intn(30), 1 + r.Intn(30), 86400 + r.Intn(9), 1000000, api.MaxTtl}[r.Intn(6)]
	}
	if has(fields, 'N') {
		q.Now = someClock(r, b)
	}
	return q
}

// beginning answers the state that a script begins with: a new ledger's, or one near an end of things.
func beginning(r *rand.Rand) api.State {
	b := opened(0, goods...)
	b.s.Room = heavy(b.s) + []int{r.Intn(200), r.Intn(1000), 1000 + r.Intn(4000), 100000}[r.Intn(4)]
	if r.Intn(8) == 0 {
		b.s.Lsn = api.MaxLsn - r.Intn(20)
	}
	if r.Intn(8) == 0 {
		b.s.Now = api.MaxNow - r.Intn(100)
	}
	return b.s
}

// wantLike holds all that can be asked of a ledger against the book.
func wantLike(t *testing.T, l *stock.Ledger, b *book) {
	t.Helper()
	s := l.State()
	if !sameState(s, b.s) {
		t.Fatalf("State: %s, want %s", show(s), show(b.s))
	}
	if !stock.Sound(s) {
		t.Fatalf("not sound: %s", show(s))
	}
	at, some := b.next()
	wantNext(t, l, at, some)
	for _, v := range b.s.Levels {
		wantLevel(t, l, v.Code, v.OnHand, v.Held)
	}
	if v, e := l.Level("zz"); v != (api.Level{}) || e != api.ErrNoCode {
		t.Errorf("Level of a code that there is not: %v, %d", v, e)
	}
	if t.Failed() {
		t.FailNow()
	}
}

// P12.4 to P12.7, P12.11: over many scripts a ledger answers as the slow book does, Would ahead of Do the same, its state is sound and is the book's, and a ledger made from that state at any moment goes on alike.
func TestP12_4To11Scripts(t *testing.T) {
	r := rand.New(rand.NewSource(4))
	count := map[api.Errno]int{}
	kinds := map[int]int{}
	again, lapsed, forgotten := 0, 0, 0
	for range 800 {
		b := &book{beginning(r)}
		l := from(t, b.s)
		twin := from(t, b.s)
		for range 160 {
			q := request(r, b)
			before := copyState(b.s)
			would := l.Would(q)
			if s := l.State(); !sameState(s, before) {
				t.Fatalf("Would(%s) has changed %s to %s", show(q), show(before), show(s))
			}
			reply := b.do(q)
			got, of := l.Do(q), twin.Do(q)
			if !sameReply(got, reply) || !sameReply(would, reply) || !sameReply(of, reply) {
				t.Fatalf("%s of %s: Do %s, Would %s, a ledger made from its state %s, want %s", show(q), show(before), show(got), show(would), show(of), show(reply))
			}
			wantLike(t, l, b)
			if r.Intn(10) == 0 {
				twin = from(t, l.State())
			}
			count[reply.Err]++
			if reply.Err == api.OK {
				kinds[q.Kind]++
			}
			if reply.Err == api.OK && changes(q.Kind) && before.Lsn == b.s.Lsn {
				again++
			}
			if q.Kind == api.KindTick {
				lapsed += len(before.Holds) - len(b.s.Holds)
				forgotten += max(0, len(before.Done)-len(b.s.Done))
			}
		}
		wantLike(t, twin, b)
	}
	for _, e := range []api.Errno{api.OK, api.ErrOther, api.ErrNoCode, api.ErrOver, api.ErrStock, api.ErrThere, api.ErrNoHold, api.ErrFull, api.ErrEnd, api.ErrUnused, api.ErrQty} {
		if count[e] < 100 {
			t.Errorf("error %d came %d times alone", e, count[e])
		}
	}
	for kind := 1; kind <= 9; kind++ {
		if kinds[kind] < 300 {
			t.Errorf("kind %d was done %d times alone", kind, kinds[kind])
		}
	}
	if again < 1000 || lapsed < 300 || forgotten < 300 {
		t.Errorf("sent again %d, lapsed %d, forgotten %d", again, lapsed, forgotten)
	}
}

// played answers the state behind a script of so many requests, with room to spare.
func played(t *testing.T, r *rand.Rand, steps int) api.State {
	t.Helper()
	b := opened(api.MaxRoom, goods...)
	for _, c := range goods {
		b.do(restock("in"+c, line(c, 5+r.Intn(20))))
	}
	for range steps {
		b.do(request(r, b))
	}
	return b.s
}

// P12.6: State of From is the state; Level and Next of it tell the same.
func TestP12_6StateAndFrom(t *testing.T) {
	s := whole()
	l := from(t, s)
	wantState(t, l, s)
	wantLike(t, l, &book{s})
	wantNext(t, l, 100001, true)
	r := rand.New(rand.NewSource(5))
	for range 200 {
		s := anyState(r)
		wantLike(t, from(t, s), &book{s})
	}
	for range 40 {
		s := played(t, r, 100)
		wantLike(t, from(t, s), &book{s})
	}
}

// P12.6: Level of what is no code.
func TestP12_6LevelOfNone(t *testing.T) {
	l := from(t, whole())
	for _, code := range []string{"", "A", "aa", "ab", "e", " ", "\xff", times('a', 1000)} {
		if v, e := l.Level(code); v != (api.Level{}) || e != api.ErrNoCode {
			t.Errorf("Level(%q): %v, %d", code, v, e)
		}
	}
}

// P12.6: From takes what is not in memory, and holds no fault of an earlier ledger: two ledgers of one state go their own ways.
func TestP12_6TwoLedgersOfOneState(t *testing.T) {
	s := whole()
	one, two := from(t, s), from(t, s)
	do(t, one, commit("x", "h1"), restock("y", line("a", 4)), tick("z", 300000))
	wantState(t, two, whole())
	wantState(t, from(t, s), whole())
	do(t, two, release("x", "h1"))
	wantLevel(t, one, "a", 11, 0)
	wantLevel(t, two, "a", 9, 4)
}

// P12.5: Would, asked as often as one likes, of any request, answers as Do does then.
func TestP12_5Would(t *testing.T) {
	r := rand.New(rand.NewSource(6))
	for range 30 {
		s := played(t, r, 60)
		l := from(t, s)
		var asked []api.Request
		var replies []api.Reply
		for range 60 {
			q := request(r, &book{s})
			asked, replies = append(asked, q), append(replies, l.Would(q))
		}
		wantState(t, l, s)
		for i, q := range asked {
			if reply := l.Would(q); !sameReply(reply, replies[i]) {
				t.Fatalf("Would(%s), asked again: %s, at first %s", show(q), show(reply), show(replies[i]))
			}
			if reply := from(t, s).Do(q); !sameReply(reply, replies[i]) {
				t.Fatalf("Do(%s): %s, Would %s", show(q), show(reply), show(replies[i]))
			}
		}
		wantState(t, l, s)
	}
}

// R5: what was asked and refused, or asked by Would, does not show later on.
func TestR5AnswersHangOnTheCallsAlone(t *testing.T) {
	r := rand.New(rand.NewSource(7))
	for range 60 {
		b := opened(100000, goods...)
		quiet, asked := from(t, b.s), from(t, b.s)
		for range 80 {
			q := request(r, b)
			for range r.Intn(4) {
				x := request(r, b)
				asked.Would(x)
				if asked.Would(x).Err != api.OK {
					asked.Do(x)
				}
				asked.State()
				asked.Next()
				asked.Level(goods[0])
			}
			reply := b.do(q)
			got := asked.Do(q)
			if reply.Err == api.OK {
				quiet.Do(q)
			}
			if !sameReply(got, reply) {
				t.Fatalf("Do(%s): %s, want %s", show(q), show(got), show(reply))
			}
		}
		wantLike(t, quiet, b)
		wantLike(t, asked, b)
	}
}

// R5: a state's lists are in order whatever order things came in.
func TestR5AnyOrderOfComing(t *testing.T) {
	r := rand.New(rand.NewSource(8))
	ids := names(60)
	var first api.State
	for i := range 20 {
		l := made(t, 100000, "a")
		do(t, l, restock("r", line("a", 1000)))
		for _, j := range r.Perm(len(ids)) {
			do(t, l, hold(ids[j], 100+j%7, line("a", 1+j%3)))
		}
		s := l.State()
		if i == 0 {
			first = s
		}
		if !sameState(s, first) {
			t.Fatalf("%s, at first %s", show(s), show(first))
		}
		if !slices.IsSortedFunc(s.Holds, func(g, h api.Held) int { return cmpText(g.Id, h.Id) }) {
			t.Fatalf("holds not in order: %s", show(s.Holds))
		}
	}
}

func cmpText(a, b string) int {
	switch {
	case a < b:
		return -1
	case a > b:
		return 1
	}
	return 0
}
