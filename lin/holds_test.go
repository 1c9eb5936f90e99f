package lin_test

import (
	"slices"
	"strconv"
	"testing"

	"larder/api"
	"larder/lin"
)

// two are ops one behind the other: a hold, and another that it leaves too little for.
func two() []api.Op { return []api.Op{held("h", 0, 1), no(h("i"), api.ErrStock, 2, 3)} }

// TestP16_3_NoOrder: lists that are no order are false and OK, whatever numbers they have.
func TestP16_3_NoOrder(t *testing.T) {
	s := five()
	wantHolds(t, "an order", two(), []int{0, 1}, s, true)
	for _, order := range [][]int{
		{0, 0}, {1, 1}, {0, 1, 0}, {0, 1, 1}, {0, 0, 1},
		{-1}, {-1, 0, 1}, {0, -1, 1}, {0, 1, -1}, {least, 0, 1},
		{2}, {0, 2}, {0, 1, 2}, {2, 0, 1}, {0, 1, greatest}, {0, 1, 1 << 32}, {1 << 32, 1},
		{}, nil, {0}, {1}, {1, 0},
	} {
		wantHolds(t, "no order", two(), order, s, false)
	}
	wantHolds(t, "a long list", two(), make([]int, 1<<20), s, false)
	long := make([]int, 5000)
	for i := range long {
		long[i] = i
	}
	wantHolds(t, "numbers behind the last", two(), long, s, false)
	wantHolds(t, "a number of no ops", nil, []int{0}, s, false)
	wantHolds(t, "a number below 0 of no ops", nil, []int{-1}, s, false)
}

// TestP16_3_Empty: the empty order is one of ops of which none is answered.
func TestP16_3_Empty(t *testing.T) {
	for _, order := range [][]int{nil, {}} {
		wantHolds(t, "no ops", nil, order, five(), true)
		wantHolds(t, "an empty list of ops", []api.Op{}, order, five(), true)
		wantHolds(t, "open ops", []api.Op{open(h("h"), 0, 4), open(h("i"), 6, ever)}, order, five(), true)
		wantHolds(t, "one answered", []api.Op{open(h("h"), 0, 4), done(save("s"), 6, 7)}, order, five(), false)
	}
}

// TestP16_3_Open: Open ops stand in an order or do not; what a ledger says to them is not asked.
func TestP16_3_Open(t *testing.T) {
	s := five()
	for name, end := range map[string]int{"cut off": 4, "not cut off": ever} {
		seen := []api.Op{open(h("h"), 0, end), looked("r", 5, 3, 2, 3)}
		wantHolds(t, name+", seen", seen, []int{0, 1}, s, true)
		wantHolds(t, name+", seen and left out", seen, []int{1}, s, false)
		wantHolds(t, name+", seen and behind", seen, []int{1, 0}, s, false)
		unseen := []api.Op{open(h("h"), 0, end), looked("r", 5, 0, 2, 3)}
		wantHolds(t, name+", not seen", unseen, []int{1}, s, true)
		wantHolds(t, name+", not seen, ahead", unseen, []int{0, 1}, s, false)
		wantHolds(t, name+", not seen, behind", unseen, []int{1, 0}, s, true)
		wantHolds(t, name+", twice", unseen, []int{1, 0, 0}, s, false)
	}
	for _, r := range []api.Request{{}, {Id: "x", Kind: 99}, hold("x", 0), writeoff("x", line("a", 99)), commit("x", "nobody"), read("x", "nothing"), save("x"), read("x", "a")} {
		ops := []api.Op{looked("r", 5, 0, 0, 5), open(r, 0, ever)}
		wantHolds(t, "refused, behind", ops, []int{0, 1}, s, true)
		wantHolds(t, "refused, ahead", ops, []int{1, 0}, s, true)
		wantHolds(t, "refused, left out", ops, []int{0}, s, true)
	}
}

// TestP16_3_RealTime: no op stands behind one that it is Ahead of, be it next to it or not; two that touch stand either way.
func TestP16_3_RealTime(t *testing.T) {
	s := five()
	free := func(id string, begin, end int) api.Op { return done(save(id), begin, end) }
	wantHolds(t, "one behind the other", []api.Op{free("x", 0, 1), free("y", 2, 3)}, []int{1, 0}, s, false)
	wantHolds(t, "two that touch", []api.Op{free("x", 0, 2), free("y", 2, 3)}, []int{1, 0}, s, true)
	wantHolds(t, "two that touch", []api.Op{free("x", 0, 2), free("y", 2, 3)}, []int{0, 1}, s, true)
	wantHolds(t, "one in another", []api.Op{free("x", 0, 9), free("y", 2, 3)}, []int{1, 0}, s, true)
	// x is Ahead of z; y lies beside both.
	three := []api.Op{free("x", 0, 1), free("y", 0, 9), free("z", 2, 3)}
	for _, x := range []struct {
		order []int
		good  bool
	}{
		{[]int{0, 1, 2}, true}, {[]int{0, 2, 1}, true}, {[]int{1, 0, 2}, true}, {[]int{1, 2, 0}, false}, {[]int{2, 0, 1}, false}, {[]int{2, 1, 0}, false},
	} {
		wantHolds(t, "three", three, x.order, s, x.good)
	}
	// What a crash cut off had its effect ahead of what was asked behind the crash, or never.
	cut := []api.Op{open(restock("x", line("a", 1)), 0, 4), free("y", 4, 5), free("z", 5, 6)}
	for _, x := range []struct {
		order []int
		good  bool
	}{
		{[]int{1, 2}, true}, {[]int{0, 1, 2}, true}, {[]int{1, 0, 2}, true}, {[]int{1, 2, 0}, false}, {[]int{2, 1}, true}, {[]int{2, 1, 0}, false}, {[]int{2, 0, 1}, false}, {[]int{0, 2, 1}, true},
	} {
		wantHolds(t, "cut off", cut, x.order, s, x.good)
	}
	// Open ops among each other, too: one that is Ahead of another stands ahead of it, if both stand.
	opens := []api.Op{open(save("x"), 5, 6), open(save("y"), 0, 4)}
	for _, x := range []struct {
		order []int
		good  bool
	}{
		{nil, true}, {[]int{0}, true}, {[]int{1}, true}, {[]int{1, 0}, true}, {[]int{0, 1}, false},
	} {
		wantHolds(t, "open ones", opens, x.order, s, x.good)
	}
	// The moments at the limits.
	ends := []api.Op{free("x", 0, 0), free("y", 1, ever-1), free("z", ever, ever)}
	for _, order := range ordersOf([]api.Op{{}, {}, {}}) {
		wantHolds(t, "limits", ends, order, s, slices.IsSorted(order))
	}
}

// wrongs answers replies that are a reply but for one field.
func wrongs(x api.Reply) map[string]api.Reply {
	m := map[string]api.Reply{}
	y := x
	y.Id += "x"
	m["Id"] = y
	if x.Id != "" {
		y = x
		y.Id = ""
		m["no Id"] = y
	}
	y = x
	y.Err = api.ErrNoHold
	if x.Err == y.Err {
		y.Err = api.OK
	}
	m["Err"] = y
	y = x
	y.Line++
	m["Line"] = y
	y = x
	y.Now--
	m["Now"] = y
	y = x
	y.Levels = append(slices.Clone(x.Levels), api.Level{})
	m["a level more"] = y
	if len(x.Levels) > 0 {
		for field, change := range map[string]func(v *api.Level){
			"a level's Code":   func(v *api.Level) { v.Code += "x" },
			"a level's OnHand": func(v *api.Level) { v.OnHand++ },
			"a level's Held":   func(v *api.Level) { v.Held-- },
		} {
			for i := range x.Levels {
				y.Levels = slices.Clone(x.Levels)
				change(&y.Levels[i])
				m[field+" "+strconv.Itoa(i)] = y
			}
		}
		y.Levels = x.Levels[1:]
		m["a level less"] = y
		y.Levels = nil
		m["no level"] = y
	}
	return m
}

// script are requests of all kinds, refused ones among them, which a ledger does one behind the other.
func script() []api.Request {
	return []api.Request{
		restock("1", line("a", 5), line("b", 4), line("a", 1)), hold("h", 10, line("b", 2), line("a", 3)), read("r", "b", "a", "b"), hold("i", 20, line("a", 9)),
		writeoff("w", line("b", 1), line("a", 1)), extend("e", "h", 30), tick("t", 7), restock("1", line("b", 4), line("a", 6)), restock("1", line("b", 4)), save("s"),
		commit("c", "h"), release("x", "h"), hold("j", 2, line("a", 1), line("zz", 1)), hold("k", 2, line("a", 1)), tick("u", 9), read("r", "a"), release("y", "k"),
		hold("l", 5, line("b", 1)), release("z", "l"), {Id: "q", Kind: 77}, {},
	}
}

// empty is a state with two codes and nothing of them.
func empty() api.State {
	return api.State{Room: 9000, Levels: []api.Level{{Code: "a"}, {Code: "b"}}}
}

// inTurn answers a history of requests that a ledger did one behind the other.
func inTurn(t *testing.T, s api.State, list []api.Request) []api.Op {
	t.Helper()
	l := ledgerOf(t, s)
	var ops []api.Op
	for i, r := range list {
		ops = append(ops, told(r, l.Do(r), 2*i, 2*i+1))
	}
	return ops
}

// rising answers the first n numbers.
func rising(n int) []int {
	var l []int
	for i := range n {
		l = append(l, i)
	}
	return l
}

// TestP16_3_Replies: an order holds if all replies are just those of a ledger: one field of one of them wrong, and it does not.
func TestP16_3_Replies(t *testing.T) {
	ops := inTurn(t, empty(), script())
	order := rising(len(ops))
	wantHolds(t, "the replies of a ledger", ops, order, empty(), true)
	for i := range ops {
		for name, x := range wrongs(ops[i].Reply) {
			wrong := slices.Clone(ops)
			wrong[i].Reply = x
			wantHolds(t, name+" of "+show(ops[i]), wrong, order, empty(), false)
		}
		wrong := slices.Clone(ops)
		wrong[i] = open(ops[i].Request, ops[i].Begin, ops[i].End)
		wantHolds(t, "nobody was told of one", wrong, order, empty(), true)
	}
	// Lists that are nil and lists that are empty are the same.
	for i := range ops {
		if len(ops[i].Reply.Levels) == 0 {
			ops[i].Reply.Levels = make([]api.Level, 0, 3)
		}
	}
	wantHolds(t, "empty lists of levels", ops, order, empty(), true)
}

// TestP16_3_Start: an order holds from a state, and not from another.
func TestP16_3_Start(t *testing.T) {
	s := five()
	wantHolds(t, "5", []api.Op{looked("r", 5, 0, 0, 1)}, []int{0}, s, true)
	s.Levels[0].OnHand = 6
	wantHolds(t, "6", []api.Op{looked("r", 5, 0, 0, 1)}, []int{0}, s, false)
	s = behind(t, five(), h("h"), tick("t", 4))
	wantHolds(t, "a hold that is there", []api.Op{done(commit("c", "h"), 0, 1)}, []int{0}, s, true)
	wantHolds(t, "a hold that is not there", []api.Op{done(commit("c", "h"), 0, 1)}, []int{0}, five(), false)
	wantHolds(t, "a first reply", []api.Op{held("h", 0, 1)}, []int{0}, s, true)
	wantHolds(t, "a later deadline", []api.Op{told(hold("j", 10, line("a", 1)), api.Reply{Id: "j", Now: 14}, 0, 1)}, []int{0}, s, true)
	s.Lsn = api.MaxLsn
	wantHolds(t, "no numbers", []api.Op{no(restock("1", line("a", 1)), api.ErrEnd, 0, 1)}, []int{0}, s, true)
	s = five()
	s.Room = 149
	wantHolds(t, "too little room by one", []api.Op{no(restock("1", line("a", 1)), api.ErrFull, 0, 1)}, []int{0}, s, true)
	s.Room = 150
	wantHolds(t, "just room", []api.Op{done(restock("1", line("a", 1)), 0, 1)}, []int{0}, s, true)
}

// unsound are states that no ledger has.
func unsound(t *testing.T) []api.State {
	t.Helper()
	s, u, v := five(), five(), behind(t, five(), h("h"))
	s.Room = 10
	u.Levels[0].Held = 1
	v.Holds[0].Lines[0].Qty++
	return []api.State{{}, s, u, v}
}

// noHistories are lists that are none, with Check's error.
func noHistories() map[api.Errno][]api.Op {
	answered := held("h", 0, 1)
	answered.Open = true
	return map[api.Errno][]api.Op{
		api.ErrMany:     make([]api.Op, 4097),
		api.ErrMoment:   {held("g", 0, 1), held("h", 3, 2)},
		api.ErrAnswered: {held("g", 0, 1), answered},
	}
}

// TestP16_3_Errors: Check's error, then ErrState, whatever the order is; with zeros beside it.
func TestP16_3_Errors(t *testing.T) {
	for _, order := range [][]int{nil, {0, 1}, {0}, {-1}, {7, 7}, {greatest}} {
		for e, ops := range noHistories() {
			wantRefused(t, "no history", ops, order, five(), e, e)
			for _, s := range unsound(t) {
				wantRefused(t, "no history, and a state that is not sound", ops, order, s, e, e)
			}
		}
		for _, s := range unsound(t) {
			for _, ops := range [][]api.Op{nil, two(), {open(h("h"), 0, 1)}} {
				wantRefused(t, "a state that is not sound", ops, order, s, api.ErrState, api.ErrState)
			}
		}
	}
}

// TestP16_3_Long: a history of MaxHistory ops, in order, with two changed about, and with a wrong reply at its end.
func TestP16_3_Long(t *testing.T) {
	s := api.State{Room: api.MaxRoom, Levels: []api.Level{{Code: "a"}}}
	var list []api.Request
	for i := range api.MaxHistory {
		switch i % 4 {
		case 0:
			list = append(list, tick("t"+strconv.Itoa(i), i*100))
		case 1:
			list = append(list, restock("r"+strconv.Itoa(i), line("a", 1)))
		case 2:
			list = append(list, read("x", "a"))
		default:
			list = append(list, hold("h"+strconv.Itoa(i), 150, line("a", 1)))
		}
	}
	ops := inTurn(t, s, list)
	order := rising(len(ops))
	wantHolds(t, "MaxHistory ops", ops, order, s, true)
	last, e := lin.Final(ops, order, s)
	if e != api.OK || last.Lsn != api.MaxHistory/4*3 || last.Levels[0].OnHand != api.MaxHistory/4 {
		t.Errorf("Final: %s, %d", show(last), e)
	}
	order[17], order[4000] = order[4000], order[17]
	wantHolds(t, "two changed about", ops, order, s, false)
	order = rising(len(ops))
	wantHolds(t, "one left out", ops, order[1:], s, false)
	wantHolds(t, "the last left out", ops, order[:len(ops)-1], s, false)
	wantHolds(t, "one more", ops, append(order, 0), s, false)
	ops[len(ops)-1].Reply.Now++
	wantHolds(t, "a wrong reply at the end", ops, rising(len(ops)), s, false)
}

// TestP16_4_Final: the state behind the whole order; ErrOrder and the zero State where Holds is false.
func TestP16_4_Final(t *testing.T) {
	list := script()
	ops := inTurn(t, empty(), list)
	for n := range len(ops) + 1 {
		s, e := lin.Final(ops[:n], rising(n), empty())
		if u := behind(t, empty(), list[:n]...); e != api.OK || !sameState(s, u) {
			t.Errorf("%d ops: %s, %d, want %s", n, show(s), e, show(u))
		}
	}
	// Open ops at the end of the order, and in its midst, count.
	opens := []api.Op{open(h("h"), 0, ever), held("i", 0, 1), open(restock("1", line("a", 2)), 0, 7)}
	for _, x := range []struct {
		order []int
		level api.Level
	}{
		{[]int{1}, api.Level{Code: "a", OnHand: 5, Held: 3}},
		{[]int{1, 0}, api.Level{Code: "a", OnHand: 5, Held: 3}},
		{[]int{1, 2}, api.Level{Code: "a", OnHand: 7, Held: 3}},
		{[]int{1, 2, 0}, api.Level{Code: "a", OnHand: 7, Held: 6}},
		{[]int{1, 0, 2}, api.Level{Code: "a", OnHand: 7, Held: 3}},
		{[]int{2, 0, 1}, api.Level{Code: "a", OnHand: 7, Held: 6}},
	} {
		s, e := lin.Final(opens, x.order, five())
		if e != api.OK || len(s.Levels) != 1 || s.Levels[0] != x.level {
			t.Errorf("%v: %s, %d", x.order, show(s), e)
		}
	}
	for _, order := range [][]int{nil, {0}, {0, 1}, {0, 2}, {1, 1}, {1, 3}, {-1, 1}} {
		if s, e := lin.Final(opens, order, five()); e != api.ErrOrder || !sameState(s, api.State{}) {
			t.Errorf("%v: %s, %d", order, show(s), e)
		}
	}
	if s, e := lin.Final(nil, nil, five()); e != api.OK || !sameState(s, five()) {
		t.Errorf("no ops: %s, %d", show(s), e)
	}
}
