package stock_test

import (
	"math/rand"
	"slices"
	"testing"

	"larder/api"
	"larder/stock"
)

// P12.8: what a nil Ledger answers, to everything.
func TestP12_8NilLedger(t *testing.T) {
	var l *stock.Ledger
	requests := []api.Request{{}, {Id: "x", Kind: -1}, restock("", line("a", -1))}
	for kind := 1; kind <= 9; kind++ {
		requests = append(requests, well(kind))
	}
	for _, q := range requests {
		if reply := l.Do(q); !sameReply(reply, api.Reply{}) {
			t.Errorf("Do(%s): %s", show(q), show(reply))
		}
		if reply := l.Would(q); !sameReply(reply, api.Reply{}) {
			t.Errorf("Would(%s): %s", show(q), show(reply))
		}
	}
	if s := l.State(); !sameState(s, api.State{}) {
		t.Errorf("State: %s", show(s))
	}
	for _, code := range []string{"", "a", "\xff"} {
		if v, e := l.Level(code); v != (api.Level{}) || e != api.OK {
			t.Errorf("Level(%q): %v, %d", code, v, e)
		}
	}
	wantNext(t, l, 0, false)
}

// R1: a Ledger that neither New nor From has made knows no code and has no room: it answers, and never changes.
func TestR1ZeroLedger(t *testing.T) {
	for kind, e := range map[int]api.Errno{1: api.ErrNoCode, 2: api.ErrNoCode, 3: api.ErrNoCode, 4: api.ErrNoHold, 5: api.ErrNoHold, 6: api.ErrNoHold, 7: api.ErrNoCode, 8: api.ErrFull, 9: api.OK, 10: api.ErrKind} {
		l := &stock.Ledger{}
		q := well(min(kind, 9))
		q.Kind = kind
		wantDone(t, l, q, no(q.Id, e, 0))
		if s := l.State(); !sameState(s, api.State{}) {
			t.Errorf("State: %s", show(s))
		}
		if v, e := l.Level("a"); v != (api.Level{}) || e != api.ErrNoCode {
			t.Errorf("Level: %v, %d", v, e)
		}
		wantNext(t, l, 0, false)
	}
}

// R1: numbers and texts of any kind, in everything that can be asked.
func TestR1AnyArguments(t *testing.T) {
	r := rand.New(rand.NewSource(14))
	number := func() int {
		return []int{0, 1, -1, greatest, least, api.MaxNow, api.MaxTtl, r.Int(), -r.Int(), r.Intn(12)}[r.Intn(10)]
	}
	text := func() string { return anyText(r, 40+24*r.Intn(2), "a", "b", "\xff\x00", times('q', 1000)) }
	lines := func() []api.Line {
		l := make([]api.Line, []int{0, 1, 2, 33, 100}[r.Intn(5)])
		for i := range l {
			l[i] = line(text(), number())
		}
		return l
	}
	any := func() api.Request {
		return api.Request{Id: text(), Kind: number(), Lines: lines(), Hold: text(), Ttl: number(), Now: number()}
	}
	for range 300 {
		q := any()
		stock.Check(q)
		stock.Normal(q)
		stock.Changes(number())
		stock.First(api.Done{Request: q, At: number()})
		l := from(t, whole())
		l.Do(q)
		l.Would(q)
		l.Level(text())
		wantState(t, l, whole())
		s := api.State{Room: number(), Lsn: number(), Now: number()}
		for range r.Intn(3) {
			s.Levels = append(s.Levels, api.Level{Code: text(), OnHand: number(), Held: number()})
			s.Holds = append(s.Holds, api.Held{Id: text(), Lines: lines(), Deadline: number()})
			s.Done = append(s.Done, api.Done{Request: any(), At: number()})
		}
		want(t, "Weight", stock.Weight(s), heavy(s))
		want(t, "Sound", stock.Sound(s), isSound(s))
		if l, e := stock.From(s); (l != nil) != isSound(s) || (e == api.OK) != isSound(s) {
			t.Errorf("From(%s): %d", show(s), e)
		}
		stock.New([]string{text(), text()}, number())
	}
}

// laid answers a list with spare room in which something stands.
func laid[T any](spare T, l ...T) []T {
	m := append(slices.Clone(l), spare, spare)
	return m[:len(l)]
}

// spoil writes over all of a list, its spare room too.
func spoil[T any](l []T, with T) {
	l = l[:cap(l)]
	for i := range l {
		l[i] = with
	}
}

func spoilReply(r api.Reply) { spoil(r.Levels, api.Level{Code: "spoilt", OnHand: -1, Held: 7}) }

func spoilRequest(r api.Request) { spoil(r.Lines, line("spoilt", -3)) }

func spoilAll(s api.State) {
	for _, h := range s.Holds {
		spoil(h.Lines, line("spoilt", -3))
	}
	for _, d := range s.Done {
		spoilRequest(d.Request)
	}
	spoil(s.Levels, api.Level{Code: "spoilt", OnHand: -1, Held: 7})
	spoil(s.Holds, api.Held{Id: "spoilt"})
	spoil(s.Done, api.Done{At: -1})
}

// R4: what is handed in is not changed, its spare room neither, and what is written into it later shows nowhere.
func TestR4HandedIn(t *testing.T) {
	codes := laid("spare", "a", "b", "c")
	l, e := stock.New(codes, 9000)
	want(t, "New", e, api.OK)
	if !slices.Equal(codes[:5], []string{"a", "b", "c", "spare", "spare"}) {
		t.Errorf("New has changed %q", codes[:5])
	}
	spoil(codes, "spoilt")
	b := opened(9000, "a", "b", "c")
	wantLike(t, l, b)

	spare := line("spare", 77)
	lines := []api.Line{line("c", 2), line("a", 3), line("c", 1), line("b", 4), line("a", 5)}
	for _, q := range []api.Request{restock("r", laid(spare, lines...)...), hold("h", 9, laid(spare, lines...)...), writeoff("w", laid(spare, lines...)...), restock("s", laid(spare, lines...)...), restock("s", laid(spare, lines...)...)} {
		for name, f := range map[string]func(){
			"Check":  func() { stock.Check(q) },
			"Normal": func() { stock.Normal(q) },
			"Would":  func() { l.Would(q) },
			"Do":     func() { l.Do(q) },
			"First":  func() { stock.First(api.Done{Request: q}) },
		} {
			if f(); !slices.Equal(q.Lines[:len(lines)], lines) || q.Lines[:len(lines)+2][len(lines)] != spare || q.Lines[:len(lines)+2][len(lines)+1] != spare {
				t.Errorf("%s has changed %s", name, show(q.Lines[:len(lines)+2]))
			}
		}
		b.do(copyRequest(q))
		spoilRequest(q)
		wantLike(t, l, b)
	}
}

// R4: From keeps nothing of the state, and neither it nor Sound and Weight change it.
func TestR4StateHandedIn(t *testing.T) {
	s := whole()
	s.Levels = laid(api.Level{Code: "spare"}, s.Levels...)
	s.Holds = laid(api.Held{Id: "spare"}, s.Holds...)
	s.Done = laid(api.Done{At: 77}, s.Done...)
	for i := range s.Holds {
		s.Holds[i].Lines = laid(line("spare", 7), s.Holds[i].Lines...)
	}
	for i := range s.Done {
		s.Done[i].Request.Lines = laid(line("spare", 7), s.Done[i].Request.Lines...)
	}
	l := from(t, s)
	stock.Sound(s)
	stock.Weight(s)
	if !sameState(s, whole()) || s.Levels[:5][4].Code != "spare" || s.Holds[:4][3].Id != "spare" || s.Done[:9][8].At != 77 || s.Holds[0].Lines[:3][2].Code != "spare" || s.Done[4].Request.Lines[:3][2].Code != "spare" {
		t.Errorf("the state was changed: %s", show(s))
	}
	do(t, l, commit("x", "h1"), restock("y", line("a", 1)))
	if !sameState(s, whole()) {
		t.Errorf("a ledger's effects show in the state that it was made from: %s", show(s))
	}
	l = from(t, s)
	spoilAll(s)
	wantLike(t, l, &book{whole()})
}

// R4: replies, levels, states and Normals are their holder's own: what is written into one, or laid behind it, shows neither in the ledger nor in another.
func TestR4AnswersShareNoMemory(t *testing.T) {
	r := rand.New(rand.NewSource(15))
	for range 15 {
		b := &book{played(t, r, 50)}
		l := from(t, b.s)
		for range 60 {
			q := request(r, b)
			n, _, _ := stock.Normal(q)
			m, _, _ := stock.Normal(q)
			copied := copyRequest(m)
			spoilRequest(n)
			if !sameRequest(m, copied) {
				t.Fatalf("what is written into a Normal shows in another: %s", show(m))
			}
			would, reply := l.Would(q), b.do(copyRequest(q))
			got := l.Do(q)
			spoilReply(would)
			if !sameReply(got, reply) {
				t.Fatalf("what is written into a reply shows in another: %s", show(got))
			}
			spoilReply(got)
			one, two := l.State(), l.State()
			spoilAll(one)
			if !sameState(two, b.s) {
				t.Fatalf("what is written into a state shows in another: %s, want %s", show(two), show(b.s))
			}
			wantLike(t, l, b)
		}
	}
}

// R4: no two lists of one state share any memory: each is written over alone, and all others stay.
func TestR4ListsOfOneState(t *testing.T) {
	l := from(t, whole())
	do(t, l, hold("n", 5, line("c", 1), line("a", 1), line("c", 1)), restock("o", line("d", 4), line("a", 1), line("d", 4)))
	right := l.State()
	for i := range right.Holds {
		s := l.State()
		spoil(s.Holds[i].Lines, line("spoilt", -3))
		s.Holds[i].Lines = right.Holds[i].Lines
		if !sameState(s, right) {
			t.Errorf("the lines of hold %d show elsewhere: %s", i, show(s))
		}
	}
	for i := range right.Done {
		s := l.State()
		spoilRequest(s.Done[i].Request)
		s.Done[i].Request.Lines = right.Done[i].Request.Lines
		if !sameState(s, right) {
			t.Errorf("the lines of request %d show elsewhere: %s", i, show(s))
		}
	}
	s := l.State()
	_ = append(s.Levels, api.Level{Code: "behind"})
	_ = append(s.Holds[0].Lines, line("behind", 1))
	_ = append(s.Done[0].Request.Lines, line("behind", 1))
	_ = append(s.Holds, api.Held{Id: "behind"})
	_ = append(s.Done, api.Done{At: 1})
	if !sameState(s, right) {
		t.Errorf("what is laid behind a list shows in another: %s", show(s))
	}
}

// R4: a Normal's spare room holds nothing of what was handed in.
func TestR4SpareRoomOfNormal(t *testing.T) {
	n, _, _ := stock.Normal(restock("r", line("a", 1), line("b", 1), line("a", 2), line("c", 9)))
	for _, x := range n.Lines[:cap(n.Lines)][len(n.Lines):] {
		want(t, "spare room", x, api.Line{})
	}
}
