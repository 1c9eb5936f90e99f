package stock_test

import (
	"strconv"
	"testing"

	"larder/api"
)

// adds is what a request adds to a state's weight.
func adds(r api.Request) int {
	n := tidy(r)
	sum := 11 + heavyRequest(n)
	if n.Kind == api.KindHold {
		sum += heavyHeld(api.Held{Id: n.Id, Lines: n.Lines})
	}
	return sum
}

// roomy answers the state of a ledger at clock 7 with goods and a hold h of deadline 20, all requests of which are forgotten.
func roomy() api.State {
	return api.State{Room: 10000, Lsn: 50, Now: 7, Levels: []api.Level{{Code: "a", OnHand: 9, Held: 2}, {Code: "bb", OnHand: 5}}, Holds: []api.Held{{Id: "h", Lines: []api.Line{line("a", 2)}, Deadline: 20}}}
}

// ofEach are requests of all kinds that Change, each of which the ledger of roomy does.
func ofEach() []api.Request {
	return []api.Request{
		restock("r", line("a", 1), line("bb", 2), line("a", 3)),
		writeoff("w", line("bb", 2)),
		hold("new", 5, line("bb", 1), line("a", 1), line("bb", 1)),
		commit("c", "h"),
		release("longer", "h"),
		extend("e", "h", 30),
		tick("t", 7),
		tick("lapse", 20),
		tick("far", api.MaxNow),
	}
}

// P12.4, 5: by Room, just enough and one too few; what a request takes away is not counted off.
func TestP12_4FullByRoom(t *testing.T) {
	for _, r := range ofEach() {
		s := roomy()
		s.Room = heavy(s) + adds(r)
		l := from(t, s)
		if reply := l.Do(r); reply.Err != api.OK {
			t.Errorf("%s, with just enough room: %s", show(r), show(reply))
		}
		s.Room--
		l = from(t, s)
		wantDone(t, l, r, no(r.Id, api.ErrFull, 0))
		wantDone(t, l, read("x", "a"), levels("x", s.Levels[0]))
		wantDone(t, l, save("s"), ok("s"))
		s.Room = heavy(s)
		wantDone(t, from(t, s), r, no(r.Id, api.ErrFull, 0))
	}
}

// P12.4, 5: a Hold adds its Done and itself, each with all its lines.
func TestP12_4FullByRoomNumbers(t *testing.T) {
	// The ledger weighs 64 + 22 + 23; the Hold 14 + 2 + 12 + 13, its Done 11 + 40 + 2 + 12 + 13.
	for room, e := range map[int]api.Errno{109 + 41 + 78: api.OK, 109 + 41 + 77: api.ErrFull} {
		l := from(t, api.State{Room: room, Lsn: 1, Levels: []api.Level{{Code: "a", OnHand: 9}, {Code: "bb", OnHand: 9}}})
		want(t, "Hold in room "+strconv.Itoa(room), l.Do(hold("hh", 9, line("bb", 1), line("a", 1), line("a", 2))).Err, e)
	}
	// A Commit's Done is 11 + 40 + 2 + 3.
	for room, e := range map[int]api.Errno{86 + 29 + 56: api.OK, 86 + 29 + 55: api.ErrFull} {
		l := from(t, api.State{Room: room, Lsn: 1, Levels: []api.Level{{Code: "a", OnHand: 9, Held: 9}}, Holds: []api.Held{{Id: "hhh", Lines: []api.Line{line("a", 9)}, Deadline: 5}}})
		want(t, "Commit in room "+strconv.Itoa(room), l.Do(commit("cc", "hhh")).Err, e)
	}
}

// P12.4, 5: what is gone makes room again: a hold that was sold, given back or lapsed, a request that was forgotten.
func TestP12_4RoomComesBack(t *testing.T) {
	for _, end := range []api.Request{commit("cc", "h"), release("ff", "h"), tick("tt", 20)} {
		s := roomy()
		next := restock("next", line("a", 1))
		gone := heavyHeld(s.Holds[0])
		s.Room = heavy(s) + adds(end) - gone + adds(next)
		l := from(t, s)
		do(t, l, end)
		if reply := l.Would(next); reply.Err != api.OK {
			t.Errorf("behind %s: %s", show(end), show(reply))
		}
		s.Room--
		l = from(t, s)
		do(t, l, end)
		wantDone(t, l, next, no("next", api.ErrFull, 0))
	}
}

// P12.4, 5: what a Tick has forgotten makes room again, as what has lapsed by it.
func TestP12_4RoomComesBackBehindATick(t *testing.T) {
	far, next := tick("far", 7+86400), hold("next", 1, line("a", 1), line("bb", 2))
	s := roomy()
	s.Done = []api.Done{{Request: restock("old", line("a", 3)), At: 7}}
	freed := 11 + heavyRequest(s.Done[0].Request) + heavyHeld(s.Holds[0])
	s.Room = heavy(s) + adds(far) - freed + adds(next)
	l := from(t, s)
	do(t, l, far)
	if reply := l.Would(next); reply.Err != api.OK {
		t.Errorf("%s with just enough room: %s", show(next), show(reply))
	}
	s.Room--
	l = from(t, s)
	do(t, l, far)
	wantDone(t, l, next, no("next", api.ErrFull, 0))
}

// P12.4, 5: by MaxHolds: just not reached, and reached; other kinds do not mind.
func TestP12_4FullByHolds(t *testing.T) {
	l := made(t, api.MaxRoom, "a")
	do(t, l, restock("r", line("a", 5000)))
	id := names(1100)
	for i := range 1023 {
		do(t, l, hold(id[i], 90000+i, line("a", 2)))
	}
	wantDone(t, l, hold(id[1023], 86400, line("a", 1)), okAt(id[1023], 86400))
	wantDone(t, l, hold(id[1024], 5, line("a", 1)), no(id[1024], api.ErrFull, 0))
	wantDone(t, l, hold(id[1024], 5, line("a", 5000)), no(id[1024], api.ErrStock, 0))
	wantDone(t, l, writeoff("w", line("a", 1)), ok("w"))
	wantDone(t, l, extend("e", id[4], 5), okAt("e", 5))
	wantDone(t, l, release("f", id[7]), ok("f"))
	wantDone(t, l, hold(id[1024], 95000, line("a", 1)), okAt(id[1024], 95000))
	wantDone(t, l, hold(id[1025], 95000, line("a", 1)), no(id[1025], api.ErrFull, 0))
	want(t, "holds", len(l.State().Holds), 1024)
	wantDone(t, l, tick("t", 86400), okAt("t", 86400))
	s := l.State()
	want(t, "holds behind two have lapsed", len(s.Holds), 1022)
	want(t, "nothing but the Tick is remembered", len(s.Done), 1)
	wantDone(t, l, hold(id[1025], 1, line("a", 1)), okAt(id[1025], 86401))
	wantDone(t, l, hold(id[1026], 1, line("a", 1)), okAt(id[1026], 86401))
	wantDone(t, l, hold(id[1027], 1, line("a", 1)), no(id[1027], api.ErrFull, 0))
}

// P12.4, 5: as many remembered requests as the greatest room holds. MaxDone is never reached: that many weigh more, the lightest ones too.
func TestP12_4FullByDone(t *testing.T) {
	l := made(t, api.MaxRoom, "!")
	weight := 64 + 21 + 1
	done := 0
	for _, id := range append(singles(), names(4100)...) {
		r := tick(id, 0)
		if weight+51+len(id) > api.MaxRoom {
			wantDone(t, l, r, no(id, api.ErrFull, 0))
			break
		}
		if reply := l.Do(r); reply.Err != api.OK {
			t.Fatalf("request %d: %s", done, show(reply))
		}
		weight += 51 + len(id)
		done++
	}
	s := l.State()
	want(t, "remembered", len(s.Done), done)
	if done < 2400 || done >= api.MaxDone {
		t.Errorf("%d requests were remembered", done)
	}
	wantDone(t, l, tick("!", 0), okAt("!", 0))
	wantDone(t, l, read("!", "!"), levels("!", api.Level{Code: "!"}))
}

// singles answers all ids of one byte.
func singles() []string {
	var l []string
	for b := byte(33); b < 127; b++ {
		l = append(l, string([]byte{b}))
	}
	return l
}

// P12.4, 5: ErrEnd at MaxLsn, behind ErrFull and ahead of nothing.
func TestP12_4End(t *testing.T) {
	for _, r := range ofEach() {
		s := roomy()
		s.Lsn = api.MaxLsn - 1
		l := from(t, s)
		do(t, l, r)
		want(t, "Lsn", l.State().Lsn, api.MaxLsn)
		wantDone(t, l, restock("more", line("a", 1)), no("more", api.ErrEnd, 0))
		if reply := l.Do(r); reply.Err != api.OK || !sameReply(reply, firstReply(api.Done{Request: r, At: l.State().Now})) {
			t.Errorf("%s, sent again at the end: %s", show(r), show(reply))
		}
		wantDone(t, l, save("s"), ok("s"))

		s.Lsn = api.MaxLsn
		l = from(t, s)
		wantDone(t, l, r, no(r.Id, api.ErrEnd, 0))
		wantDone(t, l, read("x", "bb"), levels("x", s.Levels[1]))
		s.Room = heavy(s) + adds(r) - 1
		wantDone(t, from(t, s), r, no(r.Id, api.ErrFull, 0))
	}
	s := roomy()
	s.Lsn = api.MaxLsn
	l := from(t, s)
	wantDone(t, l, writeoff("w", line("a", 8)), no("w", api.ErrStock, 0))
	wantDone(t, l, commit("c", "i"), no("c", api.ErrNoHold, 0))
	wantDone(t, l, hold("h", 1, line("a", 1)), no("h", api.ErrThere, 0))
	wantDone(t, l, restock("r", line("c", 1)), no("r", api.ErrNoCode, 0))
}

// P12.4, 5: ErrFull comes behind all that the kinds ask.
func TestP12_4FullIsLast(t *testing.T) {
	s := roomy()
	s.Room = heavy(s)
	l := from(t, s)
	wantDone(t, l, writeoff("w", line("a", 8)), no("w", api.ErrStock, 0))
	wantDone(t, l, writeoff("w", line("a", 7)), no("w", api.ErrFull, 0))
	wantDone(t, l, restock("r", line("bb", 1), line("a", api.MaxStock)), no("r", api.ErrOver, 1))
	wantDone(t, l, hold("h", 1, line("a", 1)), no("h", api.ErrThere, 0))
	wantDone(t, l, hold("i", 1, line("a", 1)), no("i", api.ErrFull, 0))
	wantDone(t, l, commit("c", "i"), no("c", api.ErrNoHold, 0))
	wantDone(t, l, commit("c", "h"), no("c", api.ErrFull, 0))
	wantDone(t, l, tick("t", 0), no("t", api.ErrFull, 0))
}
