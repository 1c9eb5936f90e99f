package stock_test

import (
	"math/rand"
	"slices"
	"strconv"
	"testing"

	"larder/api"
	"larder/stock"
)

// wantSound holds Sound and From against whether a state is sound.
func wantSound(t *testing.T, name string, s api.State, sound bool) {
	t.Helper()
	want(t, name+": Sound", stock.Sound(s), sound)
	l, e := stock.From(s)
	if !sound {
		if l != nil || e != api.ErrState {
			t.Errorf("%s: From: %v, %d, want ErrState", name, l != nil, e)
		}
		return
	}
	if l == nil || e != api.OK {
		t.Errorf("%s: From: %v, %d", name, l != nil, e)
		return
	}
	if got := l.State(); !sameState(got, s) {
		t.Errorf("%s: State %s, want %s", name, show(got), show(s))
	}
}

// whole answers a sound state in which there is some of everything.
func whole() api.State {
	return api.State{
		Room: 20000, Lsn: 60, Now: 100000,
		Levels: []api.Level{{Code: "a", OnHand: 9, Held: 6}, {Code: "b", OnHand: 5, Held: 5}, {Code: "c", OnHand: 3}, {Code: "d"}},
		Holds: []api.Held{
			{Id: "h1", Lines: []api.Line{line("a", 2), line("b", 1)}, Deadline: 100001},
			{Id: "h2", Lines: []api.Line{line("a", 4)}, Deadline: 100050},
			{Id: "h3", Lines: []api.Line{line("b", 4)}, Deadline: 100000 + 1<<31},
		},
		Done: []api.Done{
			{Request: commit("c", "h0"), At: 99000},
			{Request: extend("e", "h2", 50), At: 100000},
			{Request: release("f", "h9"), At: 99999},
			{Request: hold("h3", 1<<31, line("b", 4)), At: 100000},
			{Request: restock("r", line("a", 5), line("c", 2)), At: 13601},
			{Request: tick("t", 99999), At: 99999},
			{Request: tick("u", 0), At: 99999},
			{Request: writeoff("w", line("d", 7)), At: 50000},
		},
	}
}

// changed answers the whole state with something changed.
func changed(f func(*api.State)) api.State {
	s := whole()
	f(&s)
	return s
}

// a way to change a state, and whether it is sound then.
type turn struct {
	name  string
	f     func(*api.State)
	sound bool
}

func wantTurns(t *testing.T, l []turn) {
	t.Helper()
	wantSound(t, "the whole state", whole(), true)
	for _, x := range l {
		wantSound(t, x.name, changed(x.f), x.sound)
	}
}

// P12.7: Room, weight, Lsn and Now.
func TestP12_7Numbers(t *testing.T) {
	weight := heavy(whole())
	wantTurns(t, []turn{
		{"the greatest room", func(s *api.State) { s.Room = 131072 }, true},
		{"more room", func(s *api.State) { s.Room = 131073 }, false},
		{"far more room", func(s *api.State) { s.Room = greatest }, false},
		{"just enough room", func(s *api.State) { s.Room = weight }, true},
		{"too little room", func(s *api.State) { s.Room = weight - 1 }, false},
		{"no room", func(s *api.State) { s.Room = 0 }, false},
		{"less than no room", func(s *api.State) { s.Room = -1 }, false},
		{"MaxLsn", func(s *api.State) { s.Lsn = 1 << 62 }, true},
		{"beyond MaxLsn", func(s *api.State) { s.Lsn = 1<<62 + 1 }, false},
		{"as many effects as are remembered", func(s *api.State) { s.Lsn = 8 }, true},
		{"fewer effects than are remembered", func(s *api.State) { s.Lsn = 7 }, false},
		{"Lsn 0", func(s *api.State) { s.Lsn = 0; s.Done = nil }, true},
		{"Lsn -1", func(s *api.State) { s.Lsn = -1; s.Done = nil }, false},
		{"Now -1", func(s *api.State) { s.Now = -1; s.Holds = nil; s.Levels = s.Levels[3:]; s.Done = nil }, false},
		{"Now 0", func(s *api.State) { s.Now = 0; s.Holds = nil; s.Levels = s.Levels[3:]; s.Done = nil }, true},
		{"MaxNow", func(s *api.State) { s.Now = 1 << 39; s.Holds = nil; s.Levels = s.Levels[3:]; s.Done = nil }, true},
		{"beyond MaxNow", func(s *api.State) { s.Now = 1<<39 + 1; s.Holds = nil; s.Levels = s.Levels[3:]; s.Done = nil }, false},
		{"Now beyond all", func(s *api.State) { s.Now = greatest; s.Holds = nil; s.Levels = s.Levels[3:]; s.Done = nil }, false},
		{"Now below all", func(s *api.State) { s.Now = least; s.Holds = nil; s.Levels = s.Levels[3:]; s.Done = nil }, false},
	})
	wantSound(t, "the zero State", api.State{}, false)
}

// P12.7: Levels.
func TestP12_7Levels(t *testing.T) {
	bare := func(s *api.State) { s.Holds, s.Done = nil, nil }
	wantTurns(t, []turn{
		{"no level", func(s *api.State) { bare(s); s.Levels = nil }, false},
		{"one level", func(s *api.State) { bare(s); s.Levels = s.Levels[3:] }, true},
		{"512 levels", func(s *api.State) { bare(s); s.Levels = opened(0, names(512)...).s.Levels }, true},
		{"513 levels", func(s *api.State) { bare(s); s.Levels = opened(0, names(513)...).s.Levels }, false},
		{"a code twice", func(s *api.State) { s.Levels[3].Code = "c" }, false},
		{"codes not in order", func(s *api.State) { s.Levels[2], s.Levels[3] = s.Levels[3], s.Levels[2] }, false},
		{"a code that is none", func(s *api.State) { s.Done = nil; s.Levels[3].Code = "d " }, false},
		{"a code that is too long", func(s *api.State) { s.Done = nil; s.Levels[3].Code = times('d', 41) }, false},
		{"a code that is not too long", func(s *api.State) { s.Done = nil; s.Levels[3].Code = times('d', 40) }, true},
		{"an empty code", func(s *api.State) { s.Levels = append([]api.Level{{}}, s.Levels...) }, false},
		{"OnHand below 0", func(s *api.State) { s.Levels[3].OnHand = -1 }, false},
		{"both below 0", func(s *api.State) { s.Levels[3].OnHand, s.Levels[3].Held = -1, -1 }, false},
		{"Held below 0", func(s *api.State) { s.Levels[3].Held = -1 }, false},
		{"all is held", func(s *api.State) { s.Levels[0].OnHand = 6 }, true},
		{"more is held than there is", func(s *api.State) { s.Levels[0].OnHand = 5 }, false},
		{"MaxStock", func(s *api.State) { s.Levels[0].OnHand = api.MaxStock }, true},
		{"held by nobody", func(s *api.State) { s.Levels[2].Held = 1 }, false},
		{"too much is held", func(s *api.State) { s.Levels[0].Held = 7 }, false},
		{"too little is held", func(s *api.State) { s.Levels[0].Held = 5 }, false},
		{"held, but by another code", func(s *api.State) { s.Levels[0].Held = 5; s.Levels[2].Held = 1 }, false},
	})
}

// P12.7: Holds.
func TestP12_7Holds(t *testing.T) {
	many := func(n int) func(*api.State) {
		return func(s *api.State) {
			s.Room, s.Done = api.MaxRoom, nil
			s.Levels = []api.Level{{Code: "a", OnHand: n, Held: n}}
			s.Holds = nil
			for _, id := range names(n) {
				s.Holds = append(s.Holds, api.Held{Id: id, Lines: []api.Line{line("a", 1)}, Deadline: 100001})
			}
		}
	}
	wide := func(n int) func(*api.State) {
		return func(s *api.State) {
			s.Done = nil
			s.Levels, s.Holds = nil, []api.Held{{Id: "h", Deadline: 100001}}
			for _, c := range names(n) {
				s.Levels = append(s.Levels, api.Level{Code: c, OnHand: 1, Held: 1})
				s.Holds[0].Lines = append(s.Holds[0].Lines, line(c, 1))
			}
		}
	}
	wantTurns(t, []turn{
		{"1024 holds", many(1024), true},
		{"1025 holds", many(1025), false},
		{"a hold of 32 lines", wide(32), true},
		{"a hold of 33 lines", wide(33), false},
		{"holds not in order", func(s *api.State) { s.Holds[0], s.Holds[1] = s.Holds[1], s.Holds[0] }, false},
		{"the last holds not in order", func(s *api.State) { s.Holds[1].Id, s.Holds[2].Id = "h3", "h2" }, false},
		{"a hold twice", func(s *api.State) { s.Holds[1].Id = "h1" }, false},
		{"a name that is none", func(s *api.State) { s.Holds[2].Id = "h 3" }, false},
		{"an empty name", func(s *api.State) { s.Holds[0].Id = "" }, false},
		{"a name of 64 bytes", func(s *api.State) { s.Holds[2].Id = times('k', 64) }, true},
		{"a name of 65 bytes", func(s *api.State) { s.Holds[2].Id = times('k', 65) }, false},
		{"a hold without lines", func(s *api.State) { s.Holds[1].Lines = nil; s.Levels[0].Held = 2 }, false},
		{"a hold without lines beside the others", func(s *api.State) { s.Holds = append(s.Holds, api.Held{Id: "h4", Deadline: 100002}) }, false},
		{"lines not in order", func(s *api.State) { l := s.Holds[0].Lines; l[0], l[1] = l[1], l[0] }, false},
		{"a code twice", func(s *api.State) { s.Holds[1].Lines = []api.Line{line("a", 1), line("a", 3)} }, false},
		{"a code that there is not", func(s *api.State) { s.Holds[1].Lines = append(s.Holds[1].Lines, line("e", 1)) }, false},
		{"a code ahead of all", func(s *api.State) { s.Holds[1].Lines = []api.Line{line("!", 1), line("a", 4)} }, false},
		{"a code between two", func(s *api.State) { s.Holds[1].Lines = append(s.Holds[1].Lines, line("bb", 1)) }, false},
		{"a Qty of 0", func(s *api.State) { s.Holds[1].Lines = append(s.Holds[1].Lines, line("c", 0)) }, false},
		{"a Qty below 0, the sum as it was", func(s *api.State) { s.Holds[0].Lines[0].Qty, s.Holds[1].Lines[0].Qty = -1, 7 }, false},
		{"a Qty below 0 in the last hold, the sum as it was", func(s *api.State) { s.Holds[0].Lines[1].Qty, s.Holds[2].Lines[0].Qty = 6, -1 }, false},
		{"one more", func(s *api.State) { s.Holds[1].Lines[0].Qty++ }, false},
		{"one less", func(s *api.State) { s.Holds[1].Lines[0].Qty-- }, false},
		{"a line more", func(s *api.State) { s.Holds[1].Lines = append(s.Holds[1].Lines, line("c", 1)) }, false},
		{"one hold more", func(s *api.State) {
			s.Holds = append(s.Holds, api.Held{Id: "h4", Lines: []api.Line{line("c", 1)}, Deadline: 100002})
		}, false},
		{"one hold less", func(s *api.State) { s.Holds = s.Holds[:2] }, false},
		{"a deadline that is now", func(s *api.State) { s.Holds[0].Deadline = 100000 }, false},
		{"a deadline that has gone by", func(s *api.State) { s.Holds[0].Deadline = -5 }, false},
		{"a deadline that is too far", func(s *api.State) { s.Holds[2].Deadline++ }, false},
		{"a deadline far off", func(s *api.State) { s.Holds[2].Deadline = greatest }, false},
		{"the same deadline twice", func(s *api.State) { s.Holds[1].Deadline = 100001 }, true},
	})
}

// P12.7: sums that go round in an int are not what is held.
func TestP12_7HoldsGoRound(t *testing.T) {
	s := api.State{Room: 9000, Levels: []api.Level{{Code: "a", OnHand: api.MaxStock, Held: 4}}}
	for i, qty := range []int{api.MaxStock, api.MaxStock, 6} {
		s.Holds = append(s.Holds, api.Held{Id: "h" + strconv.Itoa(i), Lines: []api.Line{line("a", qty)}, Deadline: 5})
	}
	wantSound(t, "twice 2^63 - 1, and 6", s, false)
	s.Levels[0].Held = api.MaxStock
	wantSound(t, "more than all", s, false)
	s.Holds = s.Holds[:1]
	wantSound(t, "just all", s, true)
	s.Holds = []api.Held{{Id: "h", Lines: []api.Line{line("a", 1)}, Deadline: 5}, {Id: "i", Lines: []api.Line{line("a", api.MaxStock-1)}, Deadline: 1 << 31}}
	wantSound(t, "just all in two", s, true)
}

// P12.7: Done.
func TestP12_7Done(t *testing.T) {
	put := func(i int, r api.Request) func(*api.State) {
		return func(s *api.State) { s.Done[i].Request = r }
	}
	wantTurns(t, []turn{
		{"not in order", func(s *api.State) { s.Done[0], s.Done[1] = s.Done[1], s.Done[0] }, false},
		{"the last not in order", func(s *api.State) { s.Done[6], s.Done[7] = s.Done[7], s.Done[6] }, false},
		{"an id twice", func(s *api.State) { s.Done[6].Request.Id = "t" }, false},
		{"a request twice", func(s *api.State) { s.Done[6] = s.Done[5] }, false},
		{"an id that is none", put(0, commit("", "h0")), false},
		{"a request that is not well formed", put(0, commit("c", "")), false},
		{"a field that is not used", func(s *api.State) { s.Done[0].Request.Ttl = 1 }, false},
		{"a kind that there is not", func(s *api.State) { s.Done[0].Request.Kind = 10 }, false},
		{"a Ttl that is too long", func(s *api.State) { s.Done[1].Request.Ttl = 1<<31 + 1 }, false},
		{"lines not in order", put(4, restock("r", line("c", 2), line("a", 5))), false},
		{"a code twice", put(4, restock("r", line("a", 2), line("a", 5))), false},
		{"a Read", put(4, read("r", "a")), false},
		{"a Save", put(4, save("r")), false},
		{"a code that there is not", put(4, restock("r", line("a", 5), line("e", 2))), false},
		{"a code ahead of all", put(4, restock("r", line("!", 5), line("a", 2))), false},
		{"a request for more than there is", put(4, writeoff("r", line("a", api.MaxStock))), true},
		{"an empty list that is not nil", func(s *api.State) { s.Done[0].Request.Lines = []api.Line{} }, true},
		{"At now", func(s *api.State) { s.Done[4].At = 100000 }, true},
		{"At behind now", func(s *api.State) { s.Done[4].At = 100001 }, false},
		{"At far behind now", func(s *api.State) { s.Done[4].At = greatest }, false},
		{"At just not forgotten", func(s *api.State) { s.Done[4].At = 13601 }, true},
		{"At just forgotten", func(s *api.State) { s.Done[4].At = 13600 }, false},
		{"At 0, long forgotten", func(s *api.State) { s.Done[4].At = 0 }, false},
		{"At below 0", func(s *api.State) { s.Done[4].At = least }, false},
		{"a Tick ahead of its clock", func(s *api.State) { s.Done[5].At = 99998 }, false},
		{"a Tick behind its clock", func(s *api.State) { s.Done[5].At = 100000 }, true},
		{"a Tick of a clock that is not yet", put(5, tick("t", 100000)), false},
		{"nothing remembered", func(s *api.State) { s.Done = nil }, true},
	})
	early := func(f func(*api.State)) api.State {
		s := api.State{Room: 900, Lsn: 3, Now: 5, Levels: []api.Level{{Code: "a"}}, Done: []api.Done{{Request: restock("r", line("a", 1)), At: 0}}}
		f(&s)
		return s
	}
	wantSound(t, "At 0, early", early(func(s *api.State) {}), true)
	wantSound(t, "At -1, early", early(func(s *api.State) { s.Done[0].At = -1 }), false)
	wantSound(t, "At 0, remembered longest", early(func(s *api.State) { s.Now = 86399 }), true)
	wantSound(t, "At 0, forgotten", early(func(s *api.State) { s.Now = 86400 }), false)
}

// P12.7: more than MaxDone are never sound, nor as many: they weigh too much.
func TestP12_7ManyDone(t *testing.T) {
	s := api.State{Room: api.MaxRoom, Lsn: 9000, Levels: []api.Level{{Code: "a"}}}
	for _, id := range names(4097) {
		s.Done = append(s.Done, api.Done{Request: tick(id, 0)})
	}
	wantSound(t, "4097", s, false)
	s.Done = s.Done[:4096]
	wantSound(t, "4096", s, false)
	s.Done = s.Done[:(131072-86)/53]
	wantSound(t, "as many as there is room for", s, true)
	s.Done = append(s.Done, api.Done{Request: tick("~~", 0)})
	wantSound(t, "one more", s, false)
}

// P12.8: what states weigh, sound or not.
func TestP12_8Weight(t *testing.T) {
	for _, x := range []struct {
		name string
		s    api.State
		n    int
	}{
		{"nothing", api.State{}, 64},
		{"numbers weigh nothing", api.State{Room: greatest, Lsn: least, Now: -1}, 64},
		{"a level", api.State{Levels: []api.Level{{Code: "abc", OnHand: greatest, Held: least}}}, 64 + 21 + 3},
		{"empty levels", api.State{Levels: make([]api.Level, 1000)}, 64 + 21000},
		{"an empty hold", api.State{Holds: make([]api.Held, 1)}, 64 + 14},
		{"a hold", api.State{Holds: []api.Held{{Id: "hh", Lines: []api.Line{line("a", -1), line("", 0), line("abcd", greatest)}, Deadline: -9}}}, 64 + 14 + 2 + 33 + 5},
		{"an empty Done", api.State{Done: make([]api.Done, 1)}, 64 + 51},
		{"a Done", api.State{Done: []api.Done{{Request: api.Request{Id: "abc", Kind: -1, Lines: []api.Line{line("ab", 0), line("ab", 0)}, Hold: "hijk", Ttl: -1, Now: -1}, At: -1}}}, 64 + 11 + 40 + 3 + 4 + 22 + 4},
		{"5000 Dones", api.State{Done: make([]api.Done, 5000)}, 64 + 51*5000},
		{"texts of any bytes and any length", api.State{Levels: []api.Level{{Code: times('\xff', 100000)}}, Holds: []api.Held{{Id: times('\x00', 70000)}}}, 64 + 21 + 100000 + 14 + 70000},
		{"the whole state", whole(), heavy(whole())},
	} {
		want(t, x.name, stock.Weight(x.s), x.n)
	}
}

// P12.7, P12.8: any state, sound or spoilt in any way, against the document's list, gone through slowly.
func TestP12_7AnyState(t *testing.T) {
	r := rand.New(rand.NewSource(3))
	count := map[bool]int{}
	for range 6000 {
		s := anyState(r)
		for range r.Intn(3) {
			spoilState(r, &s)
		}
		sound := isSound(s)
		count[sound]++
		want(t, "Weight", stock.Weight(s), heavy(s))
		if got := stock.Sound(s); got != sound {
			t.Fatalf("Sound(%s): %v", show(s), got)
		}
		l, e := stock.From(s)
		if sound && (e != api.OK || !sameState(l.State(), s)) || !sound && (e != api.ErrState || l != nil) {
			t.Fatalf("From(%s), which is sound: %v: %d", show(s), sound, e)
		}
	}
	if count[true] < 2000 || count[false] < 2000 {
		t.Errorf("sound or not: %v", count)
	}
}

// isSound is P12.7, one rule behind the other.
func isSound(s api.State) bool {
	codes := map[string]int{}
	for i, v := range s.Levels {
		if !legible(v.Code, 40) || i > 0 && s.Levels[i-1].Code >= v.Code || v.Held < 0 || v.OnHand < v.Held {
			return false
		}
		codes[v.Code] = 1
	}
	good := s.Room >= 0 && s.Room <= 131072 && heavy(s) <= s.Room && s.Lsn >= 0 && s.Lsn <= 1<<62 && s.Now >= 0 && s.Now <= 1<<39
	good = good && len(s.Levels) >= 1 && len(s.Levels) <= 512 && len(s.Holds) <= 1024 && len(s.Done) <= 4096 && len(s.Done) <= s.Lsn
	var every []api.Line
	for i, h := range s.Holds {
		good = good && legible(h.Id, 64) && (i == 0 || s.Holds[i-1].Id < h.Id) && len(h.Lines) >= 1 && len(h.Lines) <= 32
		good = good && h.Deadline > s.Now && h.Deadline-s.Now <= 1<<31
		for j, x := range h.Lines {
			good = good && (j == 0 || h.Lines[j-1].Code < x.Code) && codes[x.Code] == 1 && x.Qty >= 1
		}
		every = append(every, h.Lines...)
	}
	for _, v := range s.Levels {
		sum := total(every, v.Code)
		good = good && sum.IsInt64() && int(sum.Int64()) == v.Held
	}
	for i, d := range s.Done {
		e, _ := fault(d.Request)
		good = good && e == api.OK && sameRequest(tidy(d.Request), d.Request) && changes(d.Request.Kind)
		good = good && (i == 0 || s.Done[i-1].Request.Id < d.Request.Id)
		good = good && d.At >= 0 && d.At <= s.Now && s.Now-d.At < 86400 && (d.Request.Kind != 8 || d.Request.Now <= d.At)
		for _, x := range d.Request.Lines {
			good = good && codes[x.Code] == 1
		}
	}
	return good
}

// anyState answers a sound state, made without a ledger.
func anyState(r *rand.Rand) api.State {
	s := api.State{Lsn: r.Intn(100), Now: []int{0, r.Intn(100), r.Intn(200000), 1<<39 - r.Intn(3)}[r.Intn(4)]}
	for _, c := range []string{"a", "b", "c", "d", "e"}[r.Intn(5):] {
		s.Levels = append(s.Levels, api.Level{Code: c, OnHand: r.Intn(9)})
	}
	some := func(qty int) []api.Line {
		var l []api.Line
		for _, v := range s.Levels {
			if r.Intn(3) == 0 {
				l = append(l, line(v.Code, 1+r.Intn(qty)))
			}
		}
		if len(l) == 0 {
			l = append(l, line(s.Levels[0].Code, 1))
		}
		return l
	}
	for _, id := range names(r.Intn(5)) {
		h := api.Held{Id: id, Lines: some(4), Deadline: s.Now + []int{1, 1 + r.Intn(1000), 1 << 31}[r.Intn(3)]}
		s.Holds = append(s.Holds, h)
		for i := range s.Levels {
			n := int(total(h.Lines, s.Levels[i].Code).Int64())
			s.Levels[i].OnHand += n
			s.Levels[i].Held += n
		}
	}
	for _, id := range names(min(s.Lsn, r.Intn(6))) {
		q := well([]int{1, 2, 3, 4, 5, 6, 8}[r.Intn(7)])
		q.Id = id
		if len(q.Lines) > 0 {
			q.Lines = some(1000)
		}
		at := s.Now - r.Intn(1+min(s.Now, 86399))
		if q.Kind == api.KindTick {
			q.Now = r.Intn(at + 1)
		}
		s.Done = append(s.Done, api.Done{Request: q, At: at})
	}
	s.Room = heavy(s) + r.Intn(3)*r.Intn(1000)
	return s
}

// spoilState changes a number or a text of a state, or takes an entry away, or lays one twice; which may leave it sound.
func spoilState(r *rand.Rand, s *api.State) {
	numbers := []*int{&s.Room, &s.Lsn, &s.Now}
	var texts []*string
	lists := []*[]api.Line{}
	for i := range s.Levels {
		numbers = append(numbers, &s.Levels[i].OnHand, &s.Levels[i].Held)
		texts = append(texts, &s.Levels[i].Code)
	}
	for i := range s.Holds {
		numbers = append(numbers, &s.Holds[i].Deadline)
		texts = append(texts, &s.Holds[i].Id)
		lists = append(lists, &s.Holds[i].Lines)
	}
	for i := range s.Done {
		q := &s.Done[i].Request
		numbers = append(numbers, &s.Done[i].At, &q.Kind, &q.Ttl, &q.Now)
		texts = append(texts, &q.Id, &q.Hold)
		lists = append(lists, &q.Lines)
	}
	for _, l := range lists {
		for i := range *l {
			numbers = append(numbers, &(*l)[i].Qty)
			texts = append(texts, &(*l)[i].Code)
		}
	}
	switch r.Intn(8) {
	case 0:
		if len(texts) > 0 {
			*texts[r.Intn(len(texts))] = anyText(r, 64, "a", "b", "f", "!!", "!\"")
		}
	case 1:
		if n := len(s.Levels); n > 0 {
			i := r.Intn(n)
			s.Levels = slices.Delete(s.Levels, i, i+1)
		}
	case 2:
		if len(lists) > 0 {
			l := lists[r.Intn(len(lists))]
			*l = append(slices.Clone(*l), line("c", 1))
		}
	case 3:
		if n := len(s.Done); n > 0 {
			i := r.Intn(n)
			s.Done = append(slices.Clone(s.Done[:i+1]), s.Done[i:]...)
		}
	case 4:
		if n := len(s.Holds); n > 0 {
			i := r.Intn(n)
			s.Holds = slices.Delete(s.Holds, i, i+1)
		}
	default:
		n := numbers[r.Intn(len(numbers))]
		*n = []int{*n + 1, *n - 1, 0, 1, -1, *n + 86400, greatest, least}[r.Intn(8)]
	}
}
