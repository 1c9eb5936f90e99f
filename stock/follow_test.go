package stock_test

import (
	"math/big"
	"math/rand"
	"testing"

	"larder/api"
	"larder/codec"
	"larder/stock"
)

// journal is all requests that were taken, in their order, with the clock ahead of each. From it alone the stock is reckoned anew.
type journal []api.Done

// fate is what has become of a hold.
type fate struct {
	lines    []api.Line
	deadline int
	live     bool
	sold     bool
}

// fates follows each hold through the journal: a name may have had several, one behind the other.
func (j journal) fates() []*fate {
	var all []*fate
	names := map[string]*fate{}
	for _, x := range j {
		q := x.Request
		switch q.Kind {
		case api.KindHold:
			f := &fate{lines: q.Lines, deadline: x.At + q.Ttl, live: true}
			all, names[q.Id] = append(all, f), f
		case api.KindCommit:
			names[q.Hold].live, names[q.Hold].sold = false, true
		case api.KindRelease:
			names[q.Hold].live = false
		case api.KindExtend:
			names[q.Hold].deadline = x.At + q.Ttl
		case api.KindTick:
			for _, f := range all {
				f.live = f.live && f.deadline > q.Now
			}
		}
	}
	return all
}

// reckon answers the level of a code from what came in, was written off, was sold and is held.
func (j journal) reckon(code string) api.Level {
	onHand, held := new(big.Int), new(big.Int)
	for _, x := range j {
		switch x.Request.Kind {
		case api.KindRestock:
			onHand.Add(onHand, total(x.Request.Lines, code))
		case api.KindWriteoff:
			onHand.Sub(onHand, total(x.Request.Lines, code))
		}
	}
	for _, f := range j.fates() {
		if f.sold {
			onHand.Sub(onHand, total(f.lines, code))
		}
		if f.live {
			held.Add(held, total(f.lines, code))
		}
	}
	return api.Level{Code: code, OnHand: int(onHand.Int64()), Held: int(held.Int64())}
}

// P12.9, P12.10: over many scripts nothing is sold twice, and what is sent again has its first reply and no effect. All is reckoned from the requests that were taken.
func TestP12_9And10Scripts(t *testing.T) {
	r := rand.New(rand.NewSource(9))
	sold, twice := 0, 0
	for range 120 {
		l := made(t, 400+r.Intn(20000), goods...)
		var taken journal
		replies := map[string]api.Reply{}
		for range 150 {
			s := l.State()
			q := request(r, &book{s})
			reply := l.Do(q)
			if after := l.State(); after.Lsn != s.Lsn {
				taken = append(taken, api.Done{Request: copyRequest(q), At: s.Now})
				replies[q.Id] = reply
				want(t, "Lsn behind an effect", after.Lsn, s.Lsn+1)
			} else if !sameState(after, s) {
				t.Fatalf("%s has no number, but has changed %s to %s", show(q), show(s), show(after))
			} else if reply.Err == api.OK && stock.Changes(q.Kind) {
				twice++
				if !sameReply(reply, replies[q.Id]) {
					t.Fatalf("%s, sent again: %s, at first %s", show(q), show(reply), show(replies[q.Id]))
				}
			}
			for _, code := range goods {
				v, _ := l.Level(code)
				if v != taken.reckon(code) || v.Held < 0 || v.Held > v.OnHand {
					t.Fatalf("behind %s: %v, reckoned anew %v", show(q), v, taken.reckon(code))
				}
			}
		}
		for _, f := range taken.fates() {
			if f.sold {
				sold++
			}
		}
	}
	if sold < 100 || twice < 500 {
		t.Errorf("%d holds were sold, %d requests sent again", sold, twice)
	}
}

// P12.10: each remembered request, sent again at any later time, has its first reply; each that was refused is asked anew.
func TestP12_10Once(t *testing.T) {
	r := rand.New(rand.NewSource(10))
	resent, refused := 0, 0
	for range 60 {
		l := made(t, api.MaxRoom, goods...)
		replies := map[string]api.Reply{}
		for range 120 {
			s := l.State()
			q := request(r, &book{s})
			reply := l.Do(q)
			if reply.Err != api.OK {
				refused++
				if again := l.Do(q); !sameReply(again, reply) {
					t.Fatalf("%s, refused with %s, sent again at once: %s", show(q), show(reply), show(again))
				}
			}
			if l.State().Lsn != s.Lsn {
				replies[q.Id] = reply
			}
			behind := l.State()
			resent += len(behind.Done)
			for _, d := range behind.Done {
				if reply := l.Do(d.Request); !sameReply(reply, replies[d.Request.Id]) || !sameReply(reply, stock.First(d)) {
					t.Fatalf("%s, sent again: %s, at first %s", show(d), show(reply), show(replies[d.Request.Id]))
				}
			}
			if s := l.State(); !sameState(s, behind) {
				t.Fatalf("sent again, they have changed %s to %s", show(behind), show(s))
			}
		}
	}
	if resent < 30000 || refused < 1000 {
		t.Errorf("%d requests were sent again, %d were refused", resent, refused)
	}
}

// P12.11: a ledger that is made from a state goes on as the one that has it: any requests behind it have the same replies, and leave the same state.
func TestP12_11ThereAndBack(t *testing.T) {
	r := rand.New(rand.NewSource(11))
	alike := map[api.Errno]int{}
	for range 200 {
		l := made(t, 300+r.Intn(10000), goods...)
		for range 60 {
			l.Do(request(r, &book{l.State()}))
		}
		s := l.State()
		if !stock.Sound(s) {
			t.Fatalf("not sound: %s", show(s))
		}
		back := from(t, s)
		for range 60 {
			q := request(r, &book{l.State()})
			one, two := l.Do(q), back.Do(q)
			if !sameReply(one, two) {
				t.Fatalf("%s: %s, there and back %s", show(q), show(one), show(two))
			}
			alike[one.Err]++
		}
		if one, two := l.State(), back.State(); !sameState(one, two) {
			t.Fatalf("%s, there and back %s", show(one), show(two))
		}
	}
	if alike[api.OK] < 3000 || alike[api.ErrStock] < 100 || alike[api.ErrNoHold] < 100 || alike[api.ErrFull] < 100 {
		t.Errorf("the replies: %v", alike)
	}
}

// touches answers the codes, ids and names of holds that a request has, of the hold's lines too.
func touches(s api.State, q api.Request) map[string]int {
	names := map[string]int{"id " + q.Id: 1}
	for _, x := range q.Lines {
		names["code "+x.Code] = 1
	}
	if q.Hold != "" {
		names["id "+q.Hold] = 1
	}
	for _, h := range s.Holds {
		for _, x := range h.Lines {
			if h.Id == q.Hold {
				names["code "+x.Code] = 1
			}
		}
	}
	return names
}

func apart(s api.State, q, u api.Request) bool {
	if q.Kind == api.KindTick || u.Kind == api.KindTick {
		return false
	}
	other := touches(s, u)
	for name := range touches(s, q) {
		if other[name] != 0 {
			return false
		}
	}
	return true
}

// P12.12: two requests that have nothing of one another do the same in either order.
func TestP12_12SideBySide(t *testing.T) {
	r := rand.New(rand.NewSource(12))
	pairs, effects := 0, 0
	kinds := map[[2]int]int{}
	for range 200 {
		s := played(t, r, 40)
		s.Room = api.MaxRoom
		b := &book{s}
		for range 120 {
			q, u := request(r, b), request(r, b)
			if !apart(s, q, u) {
				continue
			}
			one, two := from(t, s), from(t, s)
			q1, u1 := one.Do(q), one.Do(u)
			u2, q2 := two.Do(u), two.Do(q)
			if !sameReply(q1, q2) || !sameReply(u1, u2) {
				t.Fatalf("%s and %s: %s, %s; the other way round %s, %s", show(q), show(u), show(q1), show(u1), show(q2), show(u2))
			}
			if a, b := one.State(), two.State(); !sameState(a, b) {
				t.Fatalf("%s and %s: %s, the other way round %s", show(q), show(u), show(a), show(b))
			}
			pairs++
			if one.State().Lsn == s.Lsn+2 {
				effects++
				kinds[[2]int{q.Kind, u.Kind}]++
			}
		}
	}
	if pairs < 3000 || effects < 500 || len(kinds) < 30 {
		t.Errorf("%d pairs, %d of which had two effects, of %d pairs of kinds", pairs, effects, len(kinds))
	}
}

// 12.2: so many bytes as a state and a request weigh are always enough to write them down.
func TestP12_8WeightIsEnoughToWrite(t *testing.T) {
	r := rand.New(rand.NewSource(13))
	write := func(s api.State) {
		t.Helper()
		b, e := codec.PutState(s)
		if e != api.OK || len(b) > stock.Weight(s) {
			t.Fatalf("%d bytes, %d, of a state that weighs %d: %s", len(b), e, stock.Weight(s), show(s))
		}
	}
	write(whole())
	for range 500 {
		write(anyState(r))
	}
	for range 20 {
		write(played(t, r, 100))
	}
	// Numbers as long as they may be, and texts too.
	s := api.State{Room: api.MaxRoom, Lsn: api.MaxLsn, Now: api.MaxNow, Levels: []api.Level{{Code: times('~', 40), OnHand: api.MaxStock, Held: api.MaxStock}}}
	s.Holds = []api.Held{{Id: times('~', 64), Lines: []api.Line{line(times('~', 40), api.MaxStock)}, Deadline: api.MaxNow + api.MaxTtl}}
	for _, id := range names(60) {
		s.Done = append(s.Done, api.Done{Request: hold(id+times('~', 62), api.MaxTtl, line(times('~', 40), api.MaxStock)), At: api.MaxNow})
	}
	want(t, "sound", stock.Sound(s), true)
	write(s)
}
