package cart_test

import (
	"slices"
	"testing"

	"larder/api"
	"larder/cart"
)

func TestP14_10_Nil(t *testing.T) {
	var m *cart.Shared
	for _, h := range []int{-1, 0, 1, greatest, least} {
		want(t, "Start", m.Start(h, restock("1", line("a", 5))), api.OK)
		want(t, "Step", m.Step(h), false)
		phase, i := m.Phase(h)
		want(t, "Phase", phase, -1)
		want(t, "its number", i, 0)
		want(t, "On", m.On(h), -1)
		if x, ok := m.Reply(h); ok || !sameReply(x, api.Reply{}) {
			t.Errorf("Reply: %s, %v", show(x), ok)
		}
		want(t, "Last", m.Last(h), 0)
		want(t, "Number", m.Number(h), 0)
	}
	if s := m.State(); !isZero(s) {
		t.Errorf("State: %s", show(s))
	}
	want(t, "View", m.View(), api.View{})
	want(t, "Points", len(m.Points()), 0)
}

// TestR1_NotMade: a memory that no New has made has no handlers, and does not fall.
func TestR1_NotMade(t *testing.T) {
	m := &cart.Shared{}
	want(t, "Start", m.Start(0, read("r", "a")), api.ErrHandler)
	want(t, "Step", m.Step(0), false)
	want(t, "On", m.On(0), -1)
	want(t, "Last", m.Last(0), 0)
	want(t, "Number", m.Number(0), 0)
	phase, _ := m.Phase(0)
	want(t, "Phase", phase, -1)
	if _, ok := m.Reply(0); ok || !isZero(m.State()) || len(m.Points()) != 0 || m.View() != (api.View{}) {
		t.Errorf("%s, %v", show(m.State()), m.View())
	}
}

// TestR1_Requests: requests of any form end.
func TestR1_Requests(t *testing.T) {
	m, _ := fresh(t, plain())
	for _, r := range []api.Request{
		{}, {Kind: least}, {Kind: greatest, Id: "x"}, {Id: "x", Kind: api.KindHold, Ttl: least, Lines: []api.Line{{Code: "a", Qty: greatest}}},
		{Id: "x", Kind: api.KindHold, Ttl: greatest, Lines: []api.Line{{Code: "a", Qty: 1}}}, {Id: "x", Kind: api.KindTick, Now: greatest},
		{Id: "x", Kind: api.KindRestock, Lines: make([]api.Line, 1000)}, {Id: "x\x00", Kind: api.KindRead}, {Id: "x", Kind: api.KindRead, Lines: []api.Line{{}}},
		{Id: "x", Kind: api.KindRestock, Lines: []api.Line{{Code: "a", Qty: greatest}, {Code: "a", Qty: greatest}}},
	} {
		if x := ask(t, m, 0, r); x.Err == api.OK || x.Id != r.Id {
			t.Errorf("%s: %s", show(r), show(x))
		}
	}
}

// roomed answers a list with spare room that is filled with a value.
func roomed[T any](l []T, rest T) []T {
	wide := append(append(make([]T, 0, len(l)+3), l...), rest, rest, rest)
	return wide[:len(l)]
}

// TestR4_NewKeepsNothing: the state and the codes that were handed in may be written into behind New.
func TestR4_NewKeepsNothing(t *testing.T) {
	c := plain()
	s := behind(t, empty(c), restock("1", line("a", 9), line("b", 4)), hold("h", 10, line("a", 2), line("b", 1)))
	d := diskOf(t, c, s, 1, 0)
	given, k := copyState(s), c
	k.Codes = roomed(c.Codes, "spare")
	given.Levels = roomed(given.Levels, api.Level{Code: "spare"})
	given.Holds = roomed(given.Holds, api.Held{Id: "spare"})
	given.Holds[0].Lines = roomed(given.Holds[0].Lines, line("spare", 1))
	given.Done = roomed(given.Done, api.Done{At: 77})
	given.Done[0].Request.Lines = roomed(given.Done[0].Request.Lines, line("spare", 1))
	m, e := cart.New(d, k, given, 1)
	if e != api.OK {
		t.Fatalf("New: %d", e)
	}
	clear(k.Codes)
	clear(given.Levels)
	clear(given.Holds[0].Lines)
	clear(given.Done[0].Request.Lines)
	clear(given.Done[1].Request.Lines)
	clear(given.Holds)
	clear(given.Done)
	wantState(t, m, s)
	want(t, "its first reply", ask(t, m, 0, restock("1", line("a", 9), line("b", 4))).Err, api.OK)
	want(t, "a Commit", ask(t, m, 0, commit("c", "h")).Err, api.OK)
	want(t, "a Save", ask(t, m, 0, save("s")).Err, api.OK)
	wantState(t, m, behind(t, s, commit("c", "h")))
	if k.Codes[:3][2] != "spare" || given.Levels[:3][2].Code != "spare" || given.Holds[:2][1].Id != "spare" || given.Done[:3][2].At != 77 {
		t.Error("spare room was written into")
	}
}

// TestR4_StartKeepsNothing: a request's lines may be written into behind Start, and stay as they are.
func TestR4_StartKeepsNothing(t *testing.T) {
	c := plain()
	requests := []api.Request{
		restock("1", line("b", 2), line("a", 5), line("b", 1)), hold("h", 9, line("b", 1), line("a", 2)), writeoff("w", line("a", 1)), read("r", "b", "a"),
		restock("1", line("a", 5), line("b", 3)), writeoff("x", line("a", 99)),
	}
	m, _ := fresh(t, c)
	l := ledgerOf(t, empty(c))
	for _, r := range requests {
		given := copyRequest(r)
		given.Lines = roomed(given.Lines, line("spare", 1))
		start(t, m, 0, given)
		clear(given.Lines)
		run(t, m, 0)
		if x, _ := m.Reply(0); !sameReply(x, l.Do(r)) {
			t.Errorf("%s: %s", show(r), show(x))
		}
		wantState(t, m, l.State())
		given = copyRequest(r)
		given.Lines = roomed(given.Lines, line("spare", 1))
		start(t, m, 0, given)
		run(t, m, 0)
		if !slices.Equal(given.Lines, r.Lines) || given.Lines[:len(r.Lines)+1][len(r.Lines)] != line("spare", 1) {
			t.Errorf("%s became %s", show(r), show(given))
		}
	}
}

// scribble writes into all of a state, and behind it.
func scribble(s api.State) {
	for i := range s.Holds {
		clear(s.Holds[i].Lines)
		_ = append(s.Holds[i].Lines, line("spare", 1))
	}
	for i := range s.Done {
		clear(s.Done[i].Request.Lines)
		_ = append(s.Done[i].Request.Lines, line("spare", 1))
	}
	clear(s.Levels)
	clear(s.Holds)
	clear(s.Done)
	_ = append(s.Levels, api.Level{Code: "spare"})
	_ = append(s.Holds, api.Held{Id: "spare"})
	_ = append(s.Done, api.Done{At: 77})
}

// TestR4_AnswersAreNew: what is written into answers shows nowhere else.
func TestR4_AnswersAreNew(t *testing.T) {
	c := plain()
	m, _ := fresh(t, c)
	l := ledgerOf(t, empty(c))
	for _, r := range []api.Request{restock("1", line("a", 9), line("b", 4)), hold("h", 10, line("a", 2), line("b", 1)), hold("g", 10, line("a", 1)), read("r", "a", "b"), release("x", "g")} {
		start(t, m, 0, r)
		for standing(m, 0) != "Idle" {
			scribble(m.State())
			points := m.Points()
			clear(points)
			_ = append(points, api.Point{Handler: 77})
			step(t, m, 0)
		}
		l.Do(r)
		scribble(m.State())
		wantState(t, m, l.State())
	}
	start(t, m, 0, read("r", "a", "b"))
	run(t, m, 0)
	first, _ := m.Reply(0)
	clear(first.Levels)
	_ = append(first.Levels, api.Level{Code: "spare"})
	wantReply(t, m, 0, api.Reply{Id: "r", Levels: []api.Level{{Code: "a", OnHand: 9, Held: 2}, {Code: "b", OnHand: 4, Held: 1}}})
	points := m.Points()
	clear(points)
	want(t, "a point", m.Points()[0], api.Point{Lsn: 1})
	want(t, "points", len(m.Points()), 6)
	want(t, "a Commit", ask(t, m, 0, commit("c", "h")).Err, api.OK)
	l.Do(commit("c", "h"))
	wantState(t, m, l.State())
}

// TestR4_NoTwoListsShare: lists of one state lie apart.
func TestR4_NoTwoListsShare(t *testing.T) {
	c := plain()
	m, _ := fresh(t, c)
	ask(t, m, 0, restock("1", line("a", 9), line("b", 4)))
	ask(t, m, 0, hold("h", 10, line("a", 2), line("b", 1)))
	s := m.State()
	clear(s.Holds[0].Lines)
	_ = append(s.Holds[0].Lines, line("spare", 1))
	if d := s.Done[1].Request; d.Id != "h" || !slices.Equal(d.Lines, []api.Line{line("a", 2), line("b", 1)}) {
		t.Errorf("a hold's lines lie in its request's: %s", show(d))
	}
	// A Read's levels lie apart from those of the state.
	ask(t, m, 0, read("r", "a", "b"))
	x, _ := m.Reply(0)
	clear(x.Levels)
	want(t, "a level", m.State().Levels[0], level("a", 9, 2))
}

// TestR5_AskingChangesNothing: answers hang on what was done, not on how often it was looked at; memories side by side are each for itself.
func TestR5_AskingChangesNothing(t *testing.T) {
	c := plain()
	m, _ := fresh(t, c)
	k, _ := fresh(t, c)
	for _, r := range []api.Request{restock("1", line("a", 9)), hold("h", 10, line("a", 2)), read("r", "a"), save("s"), tick("t", 10)} {
		start(t, m, 0, r)
		start(t, k, 0, r)
		for standing(m, 0) != "Idle" {
			for h := -1; h < 3; h++ {
				m.On(h)
				m.Phase(h)
				m.Reply(h)
				m.Number(h)
				m.Last(h)
				m.Start(0, r)
			}
			m.State()
			m.View()
			m.Points()
			want(t, "phase", standing(m, 0), standing(k, 0))
			step(t, m, 0)
			step(t, k, 0)
		}
	}
	want(t, "View", m.View(), k.View())
	wantState(t, m, k.State())
	wantPoints(t, m, k.Points()...)
}
