package till_test

import (
	"slices"
	"strings"
	"testing"

	"larder/api"
	"larder/till"
)

// shown is an op in short: who it is, its Begin and its End, and whether it is open.
type shown struct {
	id         string
	begin, end int
	open       bool
}

func shownOf(s api.Story) []shown {
	var l []shown
	for _, o := range s.Ops {
		l = append(l, shown{o.Request.Id, o.Begin, o.End, o.Open})
	}
	return l
}

func wantOps(t *testing.T, u *till.Till, ops ...shown) {
	t.Helper()
	if got := shownOf(u.Story()); !slices.Equal(got, ops) {
		t.Errorf("ops: %v, want %v", got, ops)
	}
}

// TestP15_5_Ops: answered, still at work, cut off by one of several crashes, told ErrBusy.
func TestP15_5_Ops(t *testing.T) {
	c := brief()
	u := fresh(t, c)
	wantOps(t, u)
	ask(t, u, 0, refused("1"))
	ask(t, u, 1, refused("2"))
	wantOps(t, u, shown{"1", 1, api.MaxMoment, true}, shown{"2", 2, api.MaxMoment, true})
	wantOrder(t, u)
	u.Pick(1)
	u.Pick(1)
	wantOps(t, u, shown{"1", 1, api.MaxMoment, true}, shown{"2", 2, 4, false})
	wantOrder(t, u, 1)
	crash(t, u, nothing())
	wantOps(t, u, shown{"1", 1, 5, true}, shown{"2", 2, 4, false})
	ask(t, u, 0, restock("3", line("a", 1)))
	ask(t, u, 1, refused("4"))
	u.Pick(1)
	crash(t, u, nothing())
	wantOps(t, u, shown{"1", 1, 5, true}, shown{"2", 2, 4, false}, shown{"3", 6, 9, true}, shown{"4", 7, 9, true})
	wantOrder(t, u, 1)
	ask(t, u, 0, refused("5"))
	crash(t, u, kept(0, 1))
	ask(t, u, 1, refused("5"))
	wantOps(t, u, shown{"1", 1, 5, true}, shown{"2", 2, 4, false}, shown{"3", 6, 9, true}, shown{"4", 7, 9, true}, shown{"5", 10, 11, true}, shown{"5", 12, api.MaxMoment, true})
	want(t, "busy", u.Story().Busy, 0)
	want(t, "lives", u.Story().Lives, 4)
	wantHolds(t, u, c)
}

// TestP15_5_Busy: who was told ErrBusy is no op any more; the others' numbers close up. While it is at work it is one like any other.
func TestP15_5_Busy(t *testing.T) {
	c := brief()
	u := fresh(t, c)
	done(t, u, 0, restock("1", line("a", 5)))
	ask(t, u, 0, restock("2", line("a", 5)))
	ask(t, u, 1, refused("3"))
	to(t, u, 0, api.PhaseReply)
	s := u.Story()
	if len(s.Ops) != 3 || !s.Ops[1].Open || s.Busy != 0 || !slices.Equal(s.Order, []int{0}) {
		t.Errorf("ahead of its reply: %s", storyWords(s))
	}
	to(t, u, 1, api.PhaseIdle)
	wantOrder(t, u, 0, 2)
	u.Pick(0)
	x, _ := u.Reply(0)
	want(t, "reply", x.Err, api.ErrBusy)
	s = u.Story()
	if len(s.Ops) != 2 || s.Ops[1].Request.Id != "3" || s.Busy != 1 || !slices.Equal(s.Order, []int{0, 1}) {
		t.Errorf("behind its reply: %s", storyWords(s))
	}
	// One that would have been told so, and is cut off, stays an op.
	ask(t, u, 0, restock("4", line("a", 5)))
	to(t, u, 0, api.PhaseReply)
	moment := u.Story().Moment + 1
	crash(t, u, kept(0))
	s = u.Story()
	if len(s.Ops) != 3 || !s.Ops[2].Open || s.Ops[2].End != moment || s.Busy != 1 || !slices.Equal(s.Order, []int{0, 1}) {
		t.Errorf("cut off: %s", storyWords(s))
	}
	// There is room in the new life, and then none again: numbers of several lives.
	for i, id := range []string{"5", "6", "7", "8"} {
		want(t, "told ErrBusy", done(t, u, i%2, restock(id, line("a", 1))).Err == api.ErrBusy, i%2 == 1)
		if i == 1 {
			crash(t, u, nothing())
		}
	}
	s = u.Story()
	if len(s.Ops) != 5 || s.Ops[4].Request.Id != "7" || s.Busy != 3 || !slices.Equal(s.Order, []int{0, 1, 3, 4}) {
		t.Errorf("in several lives: %s", storyWords(s))
	}
	wantHolds(t, u, c)
}

// TestP15_5_OpenOfThisLife: its effect counts as soon as it is noted; what has none does not count, though it has its point.
func TestP15_5_OpenOfThisLife(t *testing.T) {
	c := plain()
	u := fresh(t, c)
	ask(t, u, 0, restock("1", line("a", 5)))
	for _, phase := range []int{api.PhaseNumber, api.PhaseAppend, api.PhaseApply, api.PhaseNote} {
		to(t, u, 0, phase)
		wantOrder(t, u)
	}
	u.Pick(0)
	wantOrder(t, u, 0)
	for phase := 0; phase != api.PhaseReply; phase, _ = u.Phase(0) {
		u.Pick(0)
		wantOrder(t, u, 0)
	}
	if o := u.Story().Ops[0]; !sameOp(o, api.Op{Request: restock("1", line("a", 5)), Begin: 1, End: api.MaxMoment, Open: true}) {
		t.Errorf("open: %s", show(o))
	}
	u.Pick(0)
	wantOrder(t, u, 0)
	// A refusal, a Read, a first reply and a Save have their points, and no effect.
	for i, r := range []api.Request{refused("2"), read("3", "a"), restock("1", line("a", 5)), save("5"), commit("6", "nobody")} {
		ask(t, u, 1, r)
		for phase := api.PhaseBegin; phase != api.PhaseIdle; phase, _ = u.Phase(1) {
			wantHolds(t, u, c)
			want(t, "ops in the order", len(u.Story().Order), 1+i)
			u.Pick(1)
		}
		want(t, "ops in the order, when it is answered", len(u.Story().Order), 2+i)
	}
}

// threeApart asks three requests that have no stripe in common: b has number 1, a number 2 and c number 3; a and b are not noted, c is, and has written all three.
func threeApart(t *testing.T, u *till.Till, c api.Config) {
	t.Helper()
	ask(t, u, 0, restock(apart(c, "x"), line("a", 5)))
	ask(t, u, 1, restock(apart(c, "y"), line("b", 5)))
	ask(t, u, 2, restock(apart(c, "z"), line("c", 5)))
	to(t, u, 1, api.PhaseOdd)
	to(t, u, 0, api.PhaseNote)
	to(t, u, 2, api.PhaseBarrier)
}

// TestP15_5_OpenOfAnEndedLife: noted or not, an effect counts if it is safe; those that were not noted stand behind all points, by their numbers.
func TestP15_5_OpenOfAnEndedLife(t *testing.T) {
	c := wide()
	u := fresh(t, c)
	threeApart(t, u, c)
	wantOrder(t, u, 2)
	crash(t, u, kept(0))
	wantOrder(t, u, 2, 1, 0)
	want(t, "effects", u.State().Lsn, 3)
	for _, o := range u.Story().Ops {
		if !o.Open || o.End != u.Story().Moment || !sameReply(o.Reply, api.Reply{}) {
			t.Errorf("op: %s", show(o))
		}
	}
	wantHolds(t, u, c)
	// They stay where they are, whatever comes behind them.
	done(t, u, 3, read("r", "a", "b", "c"))
	wantOrder(t, u, 2, 1, 0, 3)
	crash(t, u, nothing())
	wantOrder(t, u, 2, 1, 0, 3)

	u = fresh(t, c)
	threeApart(t, u, c)
	crash(t, u, nothing())
	wantOrder(t, u)
	want(t, "effects", u.State().Lsn, 0)
	wantHolds(t, u, c)

	// Safe by a Barrier, and told to one of them; a fourth one's point lies behind.
	u = fresh(t, c)
	threeApart(t, u, c)
	to(t, u, 2, api.PhaseIdle)
	done(t, u, 3, refused("q"))
	wantOrder(t, u, 2, 3)
	crash(t, u, nothing())
	wantOrder(t, u, 2, 3, 1, 0)
	wantHolds(t, u, c)
	want(t, "effects", u.State().Lsn, 3)
}

// TestP15_5_PartlySafe: of four records that are flushed together the first sector has two, one of them of a request that is not noted; the others end in the second.
func TestP15_5_PartlySafe(t *testing.T) {
	c := wide()
	for name, x := range map[string]struct {
		keep  []int
		order []int
	}{
		"nothing":           {nil, nil},
		"the first sector":  {[]int{0}, []int{1, 0}},
		"the second sector": {[]int{1}, nil},
		"both":              {[]int{0, 1}, []int{1, 2, 3, 0}},
	} {
		u := fresh(t, c)
		ask(t, u, 0, restock(apart(c, "one"), line("a", 1)))
		to(t, u, 0, api.PhaseNote) // number 1, not noted
		ask(t, u, 1, restock(apart(c, "two"), line("b", 1)))
		to(t, u, 1, api.PhaseWait) // number 2, noted
		ask(t, u, 2, restock(apart(c, "three-"+strings.Repeat("x", 55)), line("c", 1<<60)))
		to(t, u, 2, api.PhaseWait) // number 3, noted
		ask(t, u, 3, restock(apart(c, "four-"+strings.Repeat("x", 55)), line("d", 1<<60)))
		to(t, u, 3, api.PhaseWrite) // number 4, noted, and the flusher
		wantOrder(t, u, 1, 2, 3)
		want(t, "the first of two writes", u.Pick(3), true)
		phase, _ := u.Phase(3)
		want(t, "phase", phase, api.PhaseWrite)
		to(t, u, 3, api.PhaseBarrier)
		crash(t, u, kept(x.keep...))
		want(t, name+": effects", u.State().Lsn, len(x.order))
		wantOrder(t, u, x.order...)
		wantHolds(t, u, c)
	}
}

// TestP15_5_Order: by points, not as they were asked, numbered or answered.
func TestP15_5_Order(t *testing.T) {
	c := wide()
	u := fresh(t, c)
	ask(t, u, 0, restock(apart(c, "x"), line("a", 5)))
	ask(t, u, 1, restock(apart(c, "y"), line("b", 5)))
	ask(t, u, 2, restock(apart(c, "z"), line("c", 5)))
	to(t, u, 0, api.PhaseNote) // number 1
	to(t, u, 2, api.PhaseNote) // number 2
	to(t, u, 1, api.PhaseWait) // number 3
	wantOrder(t, u, 1)
	to(t, u, 2, api.PhaseWait)
	wantOrder(t, u, 1, 2)
	to(t, u, 0, api.PhaseIdle)
	wantOrder(t, u, 1, 2, 0)
	want(t, "the first that is answered", u.Story().Ops[0].Open, false)
	to(t, u, 2, api.PhaseIdle)
	to(t, u, 1, api.PhaseIdle)
	wantOrder(t, u, 1, 2, 0)
	wantHolds(t, u, c)
}

// TestP15_5_ReadAmong: a Read's point lies at its last Look, ahead of effects that were noted between that and its Again.
func TestP15_5_ReadAmong(t *testing.T) {
	c := wide()
	u := fresh(t, c)
	ask(t, u, 0, restock(apart(c, "x"), line("a", 5)))
	ask(t, u, 1, read("r", "b"))
	ask(t, u, 2, read("s", "b"))
	to(t, u, 1, api.PhaseAgain)
	to(t, u, 0, api.PhaseIdle)
	wantOrder(t, u, 0)
	to(t, u, 2, api.PhaseIdle)
	wantOrder(t, u, 0, 2)
	u.Pick(1)
	wantOrder(t, u, 0, 2) // it has its point, and is open
	to(t, u, 1, api.PhaseIdle)
	wantOrder(t, u, 1, 0, 2)
	wantHolds(t, u, c)
	// In a life that has ended it stands there too; life by life the order goes on.
	crash(t, u, nothing())
	wantOrder(t, u, 1, 0, 2)
	ask(t, u, 0, restock(apart(c, "w"), line("a", 5)))
	ask(t, u, 1, read("t", "b"))
	to(t, u, 1, api.PhaseAgain)
	to(t, u, 0, api.PhaseIdle)
	to(t, u, 1, api.PhaseIdle)
	wantOrder(t, u, 1, 0, 2, 4, 3)
	wantHolds(t, u, c)
}

// TestP15_5_ManyLives: the same handlers have requests in each of several lives; numbers go on.
func TestP15_5_ManyLives(t *testing.T) {
	c := wide()
	u := fresh(t, c)
	var order []int
	for life := range 5 {
		first := len(u.Story().Ops)
		x, y := apart(c, "x"+string(rune('0'+life))), apart(c, "y"+string(rune('0'+life)))
		ask(t, u, 0, restock(x, line("a", 1)))
		ask(t, u, 1, restock(y, line("b", 1)))
		ask(t, u, 2, refused("q"))
		ask(t, u, 3, restock(x, line("a", 2)))
		to(t, u, 2, api.PhaseIdle)
		to(t, u, 1, api.PhaseIdle)
		to(t, u, 0, api.PhaseWait)
		to(t, u, 3, api.PhaseWait)
		crash(t, u, nothing())
		order = append(order, first+2, first+1)
		wantOrder(t, u, order...)
		want(t, "lives", u.Story().Lives, 2+life)
		want(t, "effects", u.State().Lsn, 1+life)
		wantHolds(t, u, c)
	}
}

// TestP15_5_Asked: a story is what stood when it was asked for; to ask changes nothing.
func TestP15_5_Asked(t *testing.T) {
	c := plain()
	u := fresh(t, c)
	ask(t, u, 0, restock("1", line("a", 5)))
	to(t, u, 0, api.PhaseReply)
	s, was := u.Story(), looksOf(u, c)
	wantSame(t, "stories", u, c, was)
	u.Pick(0)
	crash(t, u, nothing())
	if !sameStory(s, was.story) {
		t.Errorf("a story has changed: %s", storyWords(s))
	}
}
