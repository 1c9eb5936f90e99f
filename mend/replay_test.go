package mend_test

import (
	"bytes"
	"maps"
	"math/rand"
	"slices"
	"strconv"
	"testing"

	"larder/api"
	"larder/codec"
	"larder/mend"
	"larder/stock"
)

// redone is P13.5, written from the document alone: every question is asked of the state, gone through from one end to the other.
func redone(s api.State, list [][]byte) (api.State, int, api.Errno) {
	l, e := stock.From(s)
	if e != api.OK {
		return api.State{}, 0, api.ErrState
	}
	for n, p := range list {
		state := l.State()
		r, e, _ := codec.Request(p)
		normal, f, _ := stock.Normal(r)
		known := false
		for _, d := range state.Done {
			known = known || d.Request.Id == r.Id
		}
		if e != api.OK || f != api.OK || show(r.Lines) != show(normal.Lines) || r.Kind == api.KindRead || r.Kind == api.KindSave || known || l.Would(r).Err != api.OK {
			return state, n, api.ErrRot
		}
		l.Do(r)
	}
	return l.State(), len(list), api.OK
}

// wantRedone holds Replay against that.
func wantRedone(t *testing.T, name string, s api.State, list [][]byte, e api.Errno) {
	t.Helper()
	to, n, f := redone(s, list)
	if e != f {
		t.Fatalf("%s: the document asks for %d, not %d", name, f, e)
	}
	wantReplay(t, name, s, list, to, n, f)
}

// P13.5: records of all kinds, from no state and from one with some of all things.
func TestP13_5Replay(t *testing.T) {
	c := roomy()
	list := []api.Request{
		restock("r", line("a", 5), line("b", 7)),
		writeoff("x", line("b", 1)),
		hold("k", 50, line("a", 2), line("b", 2)),
		extend("e", "k", 90),
		hold("l", 60, line("b", 1)),
		commit("c", "k"),
		release("f", "l"),
		hold("m", 5, line("a", 1)),
		tick("z", 40),
		tick("y", 0),
	}
	for n := range len(list) + 1 {
		for _, s := range []api.State{empty(c), busy(t, c)} {
			to := behind(t, s, list[:n]...)
			wantReplay(t, strconv.Itoa(n)+" records", s, records(t, list[:n]...), to, n, api.OK)
		}
	}
	s := empty(plain())
	to := s
	to.Lsn, to.Levels, to.Done = 1, []api.Level{{Code: "a", OnHand: 5}, {Code: "b"}}, []api.Done{{Request: restock("1", line("a", 5))}}
	wantReplay(t, "one", s, records(t, restock("1", line("a", 5))), to, 1, api.OK)
}

// P13.5: no records.
func TestP13_5NoRecords(t *testing.T) {
	for _, s := range []api.State{empty(plain()), empty(roomy()), busy(t, roomy())} {
		wantReplay(t, "nil", s, nil, s, 0, api.OK)
		wantReplay(t, "none", s, [][]byte{}, s, 0, api.OK)
	}
}

// P13.5: a state that is not sound, whatever the records are.
func TestP13_5NotSound(t *testing.T) {
	for name, turn := range map[string]func(s *api.State){
		"the zero State":   func(s *api.State) { *s = api.State{} },
		"more held":        func(s *api.State) { s.Levels[0].Held++ },
		"a room too small": func(s *api.State) { s.Room = 100 },
		"no room":          func(s *api.State) { s.Room = -1 },
		"too great a room": func(s *api.State) { s.Room = api.MaxRoom + 1 },
		"a late hold":      func(s *api.State) { s.Now = 10 },
	} {
		s := busy(t, roomy())
		turn(&s)
		for _, list := range [][][]byte{nil, records(t, restock("r", line("a", 1))), {{}}, {[]byte("no request")}} {
			got, n, e := mend.Replay(s, list)
			if !isZero(got) || n != 0 || e != api.ErrState {
				t.Errorf("%s: Replay: %s, %d, %d; want zeros and %d", name, show(got), n, e, api.ErrState)
			}
		}
	}
	// A room that no slot has is sound for all that.
	s := busy(t, roomy())
	s.Room--
	wantReplay(t, "another room", s, records(t, restock("r", line("a", 1))), behind(t, s, restock("r", line("a", 1))), 1, api.OK)
}

// bad answers records that Replay does not take behind the requests of good, by what is wrong with them.
func bad(t *testing.T) map[string][]byte {
	t.Helper()
	reply, _ := codec.PutReply(api.Reply{Id: "r"})
	kept, _ := codec.PutRecord(api.Record{Lsn: 1, Request: restock("r", line("a", 1))})
	fine := record(t, restock("r", line("a", 1)))
	l := map[string][]byte{
		"nothing":             nil,
		"no bytes":            {},
		"no request":          []byte("no request"),
		"one byte":            {0x51},
		"a request cut":       fine[:len(fine)-1],
		"a byte behind it":    append(bytes.Clone(fine), 0),
		"a reply":             reply,
		"a record":            kept,
		"a state":             stateBytes(t, empty(plain())),
		"another first byte":  append([]byte{0x52}, fine[1:]...),
		"a number's long way": append([]byte{0x51, 0x81, 0x00}, fine[2:]...),
		"too many bytes":      make([]byte, 4097),
	}
	for name, r := range map[string]api.Request{
		"no id":                        restock("", line("a", 1)),
		"an id of a blank":             restock("r s", line("a", 1)),
		"no kind":                      {Id: "r", Lines: []api.Line{line("a", 1)}},
		"kind 10":                      {Id: "r", Kind: 10},
		"kind -1":                      {Id: "r", Kind: -1},
		"a ttl too much":               {Id: "r", Kind: api.KindRestock, Lines: []api.Line{line("a", 1)}, Ttl: 1},
		"no lines":                     restock("r"),
		"a quantity of none":           restock("r", line("a", 0)),
		"no ttl":                       hold("r", 0, line("a", 1)),
		"a clock below zero":           tick("r", -1),
		"lines out of order":           restock("r", line("b", 1), line("a", 1)),
		"a code twice":                 restock("r", line("a", 1), line("a", 1)),
		"a code twice, with one ahead": restock("r", line("a", 1), line("b", 1), line("b", 1)),
		"a hold out of order":          hold("r", 5, line("b", 1), line("a", 1)),
		"a read":                       {Id: "r", Kind: api.KindRead, Lines: []api.Line{line("a", 0)}},
		"a read of a remembered id":    {Id: "1", Kind: api.KindRead, Lines: []api.Line{line("a", 0)}},
		"a save":                       {Id: "r", Kind: api.KindSave},
		"remembered: a restock":        restock("1", line("a", 9), line("b", 4)),
		"remembered: a hold":           hold("h", 10, line("a", 2)),
		"remembered: a tick":           tick("t", 4),
		"remembered: a writeoff":       writeoff("w", line("b", 1)),
		"other: a restock":             restock("1", line("a", 9)),
		"other: a tick's id":           restock("t", line("a", 1)),
		"other: a tick":                tick("t", 5),
		"other: a tick of none":        tick("t", 0),
		"other: a tick of one":         tick("t", 1),
		"other: a tick of a hold's id": tick("h", 0),
		"other: a tick of an id":       tick("1", 1),
		"no such code":                 restock("r", line("d", 1)),
		"too much":                     restock("r", line("a", api.MaxStock)),
		"too little to write off":      writeoff("r", line("a", 5)),
		"too little to hold":           hold("r", 1, line("b", 3)),
		"no such hold":                 commit("r", "nobody"),
		"no such hold to give back":    release("r", "1"),
		"no such hold to extend":       extend("r", "t", 4),
	} {
		l[name] = record(t, r)
	}
	return l
}

// P13.5: the first record that is none, first, in the middle and last, tells what came of those ahead of it.
func TestP13_5Rot(t *testing.T) {
	c := roomy()
	s := busy(t, c)
	good := []api.Request{restock("n1", line("c", 3)), restock("n2", line("c", 1)), tick("n3", 5), hold("n4", 9, line("c", 1))}
	for name, p := range bad(t) {
		for at := range len(good) + 1 {
			list := records(t, good[:at]...)
			list = append(list, p)
			list = append(list, records(t, good[at:]...)...)
			wantRedone(t, name, s, list, api.ErrRot)
			wantReplay(t, name+", behind "+strconv.Itoa(at), s, list, behind(t, s, good[:at]...), at, api.ErrRot)
		}
	}
	// Of two the first counts.
	list := append(records(t, good[:2]...), nil, record(t, good[2]), []byte("x"))
	wantReplay(t, "two that are none", s, list, behind(t, s, good[:2]...), 2, api.ErrRot)
}

// P13.5: what the records themselves have made remembered, each kind by itself, and ticks above all.
func TestP13_5AgainInOneLog(t *testing.T) {
	s := busy(t, roomy())
	for _, r := range []api.Request{
		restock("n", line("a", 1)), writeoff("n", line("a", 1)), hold("n", 7, line("a", 1)), commit("n", "h"), release("n", "h"), extend("n", "h", 20), tick("n", 0), tick("n", 1), tick("n", 2), tick("n", 5), tick("n", 9),
	} {
		wantReplay(t, "again", s, records(t, r, r), behind(t, s, r), 1, api.ErrRot)
		wantReplay(t, "again, behind another", s, records(t, r, restock("o", line("c", 1)), r), behind(t, s, r, restock("o", line("c", 1))), 2, api.ErrRot)
		for _, q := range []api.Request{restock("n", line("a", 2)), tick("n", 0), tick("n", 1), tick("n", 6), extend("n", "g", 20), release("n", "g")} {
			if string(record(t, q)) == string(record(t, r)) {
				continue
			}
			wantReplay(t, "another by its id", s, records(t, r, q), behind(t, s, r), 1, api.ErrRot)
		}
	}
}

// P13.5: what is forgotten may come again, the same or another.
func TestP13_5Forgotten(t *testing.T) {
	s := busy(t, roomy())
	for _, again := range []api.Request{restock("1", line("a", 9), line("b", 4)), restock("1", line("c", 1)), tick("1", 0), tick("t", 4), tick("t", 0), hold("h", 10, line("a", 2))} {
		list := []api.Request{tick("late", 4+api.KeptFor), again}
		wantReplay(t, "forgotten", s, records(t, list...), behind(t, s, list...), 2, api.OK)
		almost := []api.Request{tick("late", 3+api.KeptFor), tick("t", 4)}
		wantReplay(t, "nearly forgotten", s, records(t, almost...), behind(t, s, almost[0]), 1, api.ErrRot)
	}
	// A hold that lives, whose request is forgotten.
	list := []api.Request{hold("long", api.MaxTtl, line("a", 1)), tick("late", 5+api.KeptFor), hold("long", 5, line("a", 1))}
	wantReplay(t, "a live hold's name", s, records(t, list...), behind(t, s, list[:2]...), 2, api.ErrRot)
}

// P13.5: what has no room, and no number.
func TestP13_5FullAndEnd(t *testing.T) {
	s := empty(plain()) // weighs 108 of 384
	list := []api.Request{restock("1", line("a", 5)), restock("2", line("a", 5)), restock("3", line("a", 5)), tick("4", 0), tick("5", 0)}
	got, n, e := mend.Replay(s, records(t, list...))
	if e != api.ErrRot || n != 4 || !sameState(got, behind(t, s, list[:4]...)) {
		t.Errorf("no room: %s, %d, %d", show(got), n, e)
	}
	s = empty(roomy())
	s.Lsn = api.MaxLsn - 2
	wantReplay(t, "no number", s, records(t, list...), behind(t, s, list[:2]...), 2, api.ErrRot)
	s.Lsn = api.MaxLsn
	wantReplay(t, "no number at all", s, records(t, list...), s, 0, api.ErrRot)
}

// someRequest answers a request that mostly has an effect on a ledger.
func someRequest(r *rand.Rand, s api.State, id string) api.Request {
	code := func() string { return s.Levels[r.Intn(len(s.Levels))].Code }
	name := "nobody"
	if n := len(s.Holds); n > 0 {
		name = s.Holds[r.Intn(n)].Id
	}
	switch r.Intn(10) {
	case 0:
		return writeoff(id, line(code(), 1+r.Intn(2)))
	case 1, 2:
		return hold(id, 1+r.Intn(40), line(code(), 1+r.Intn(3)))
	case 3:
		return commit(id, name)
	case 4:
		return release(id, name)
	case 5:
		return extend(id, name, 1+r.Intn(60))
	case 6:
		return tick(id, min(max(0, s.Now+r.Intn(12)-2), api.MaxNow))
	case 7:
		if r.Intn(4) == 0 {
			return tick(id, min(s.Now+api.KeptFor-r.Intn(20), api.MaxNow))
		}
	}
	q := restock(id)
	for _, v := range s.Levels {
		if r.Intn(2) == 0 {
			q.Lines = append(q.Lines, line(v.Code, 1+r.Intn(9)))
		}
	}
	if len(q.Lines) == 0 {
		q.Lines = append(q.Lines, line(code(), 3))
	}
	return q
}

// P13.5 over many lists of records, most of them good for a while.
func TestP13_5Many(t *testing.T) {
	r := rand.New(rand.NewSource(135))
	count := map[api.Errno]int{}
	wrong := bad(t)
	kinds := slices.Sorted(maps.Keys(wrong))
	for range 1500 {
		s := empty(roomy())
		l, _ := stock.From(s)
		var list [][]byte
		for i := range r.Intn(50) {
			q := someRequest(r, l.State(), "q"+strconv.Itoa(i-r.Intn(2)*r.Intn(2)*r.Intn(9)))
			if l.Would(q).Err != api.OK && r.Intn(12) > 0 {
				continue
			}
			before := l.State().Lsn
			l.Do(q)
			if l.State().Lsn == before && r.Intn(12) > 0 {
				continue
			}
			if len(q.Lines) > 1 && r.Intn(60) == 0 {
				q.Lines[0], q.Lines[1] = q.Lines[1], q.Lines[0]
			}
			list = append(list, record(t, q))
		}
		if r.Intn(8) == 0 {
			list = append(list, wrong[kinds[r.Intn(len(kinds))]])
		}
		to, n, e := redone(s, list)
		count[e]++
		wantReplay(t, "drawn records", s, list, to, n, e)
	}
	if count[api.OK] < 200 || count[api.ErrRot] < 200 {
		t.Errorf("%v", count)
	}
}
