package stock_test

import (
	"strconv"
	"testing"

	"larder/api"
	"larder/stock"
)

// stocked answers a ledger with a 10, b 5 and c 0, the requests for it forgotten, at clock 100000.
func stocked(t *testing.T) *stock.Ledger {
	t.Helper()
	l := made(t, 6000, "a", "b", "c")
	do(t, l, restock("1", line("a", 10), line("b", 5)), tick("2", 100000))
	return l
}

// P12.4: Restock, up to MaxStock and over it.
func TestP12_4Restock(t *testing.T) {
	l := made(t, 6000, "a", "b", "c")
	wantDone(t, l, restock("1", line("b", 2), line("a", 1), line("b", 3)), ok("1"))
	wantLevel(t, l, "a", 1, 0)
	wantLevel(t, l, "b", 5, 0)
	wantDone(t, l, restock("2", line("a", api.MaxStock-1)), ok("2"))
	wantLevel(t, l, "a", api.MaxStock, 0)
	wantDone(t, l, restock("3", line("a", 1)), no("3", api.ErrOver, 0))
	wantDone(t, l, restock("3", line("b", 1), line("c", 1), line("a", 1), line("a", 1)), no("3", api.ErrOver, 2))
	wantDone(t, l, restock("3", line("b", api.MaxStock-5)), ok("3"))
	wantDone(t, l, restock("4", line("b", 1)), no("4", api.ErrOver, 0))
	wantDone(t, l, restock("4", line("c", api.MaxStock-1), line("c", 1)), ok("4"))
	wantLevel(t, l, "c", api.MaxStock, 0)
}

// P12.4: it is the sum that is over, and the first line of its code that is told.
func TestP12_4RestockSums(t *testing.T) {
	l := made(t, 6000, "a", "b")
	do(t, l, restock("1", line("a", api.MaxStock-3)))
	wantDone(t, l, restock("2", line("b", 1), line("a", 1), line("b", 1), line("a", 3)), no("2", api.ErrOver, 1))
	wantDone(t, l, restock("2", line("a", 1), line("b", 1), line("a", 2)), ok("2"))
	wantLevel(t, l, "a", api.MaxStock, 0)
}

// P12.4: Held counts for nothing when goods come in.
func TestP12_4RestockOfHeld(t *testing.T) {
	l := stocked(t)
	do(t, l, hold("h", 5, line("a", 10)))
	wantDone(t, l, restock("m", line("a", api.MaxStock-9)), no("m", api.ErrOver, 0))
	wantDone(t, l, restock("m", line("a", api.MaxStock-10)), ok("m"))
	wantLevel(t, l, "a", api.MaxStock, 10)
}

// P12.4: Writeoff of just what is free, and of one more.
func TestP12_4Writeoff(t *testing.T) {
	l := stocked(t)
	wantDone(t, l, writeoff("w", line("a", 11)), no("w", api.ErrStock, 0))
	wantDone(t, l, writeoff("w", line("c", 1)), no("w", api.ErrStock, 0))
	wantDone(t, l, writeoff("w", line("b", 5), line("a", 5), line("a", 6)), no("w", api.ErrStock, 1))
	wantDone(t, l, writeoff("w", line("b", 3), line("a", 5), line("b", 3), line("a", 6)), no("w", api.ErrStock, 0))
	wantDone(t, l, writeoff("w", line("a", api.MaxStock)), no("w", api.ErrStock, 0))
	do(t, l, hold("h", 5, line("a", 4)))
	wantDone(t, l, writeoff("w", line("b", 1), line("a", 7)), no("w", api.ErrStock, 1))
	wantDone(t, l, writeoff("w", line("b", 1), line("a", 2), line("a", 4)), ok("w"))
	wantLevel(t, l, "a", 4, 4)
	wantLevel(t, l, "b", 4, 0)
	wantDone(t, l, writeoff("v", line("a", 1)), no("v", api.ErrStock, 0))
	wantDone(t, l, writeoff("v", line("b", 4)), ok("v"))
	wantLevel(t, l, "b", 0, 0)
}

// P12.4: Hold of just what is free, and of one more; all lines or none.
func TestP12_4Hold(t *testing.T) {
	l := stocked(t)
	wantDone(t, l, hold("h", 10, line("a", 11)), no("h", api.ErrStock, 0))
	wantDone(t, l, hold("h", 10, line("a", 5), line("b", 5), line("a", 5), line("c", 1)), no("h", api.ErrStock, 3))
	wantDone(t, l, hold("h", 10, line("b", 1), line("a", 5), line("a", 6)), no("h", api.ErrStock, 1))
	wantLevel(t, l, "a", 10, 0)
	wantDone(t, l, hold("h", 10, line("b", 2), line("a", 4), line("a", 5)), okAt("h", 100010))
	wantLevel(t, l, "a", 10, 9)
	wantLevel(t, l, "b", 5, 2)
	wantDone(t, l, hold("i", 1, line("a", 2)), no("i", api.ErrStock, 0))
	wantDone(t, l, hold("i", 1, line("a", 1)), okAt("i", 100001))
	wantDone(t, l, hold("j", api.MaxTtl, line("b", 3)), okAt("j", 100000+1<<31))
	wantNext(t, l, 100001, true)
	s := l.State()
	if len(s.Holds) != 3 || !sameHeld(s.Holds[0], api.Held{Id: "h", Lines: []api.Line{line("a", 9), line("b", 2)}, Deadline: 100010}) {
		t.Errorf("the holds: %s", show(s.Holds))
	}
}

// P12.4: a hold's name that is there, behind its request having been forgotten. ErrThere is told ahead of ErrStock, at line 0, and behind ErrNoCode.
func TestP12_4HoldThere(t *testing.T) {
	l := stocked(t)
	do(t, l, hold("h", 1<<20, line("a", 4)))
	wantDone(t, l, hold("h", 1<<20, line("a", 5)), no("h", api.ErrOther, 0))
	do(t, l, tick("t", 100000+86400))
	wantDone(t, l, hold("h", 1<<20, line("a", 4)), no("h", api.ErrThere, 0))
	wantDone(t, l, hold("h", 1, line("b", 1), line("c", 1)), no("h", api.ErrThere, 0))
	wantDone(t, l, hold("h", 1, line("b", 1), line("d", 1)), no("h", api.ErrNoCode, 1))
	wantDone(t, l, restock("h", line("b", 1)), ok("h"))
	wantDone(t, l, commit("c", "h"), ok("c"))
	wantLevel(t, l, "a", 6, 0)
	wantDone(t, l, hold("h", 1, line("b", 1)), no("h", api.ErrOther, 0))
}

// P12.4: Commit, Release and Extend of a hold that there is not, that was sold, given back, that lapsed.
func TestP12_4NoHold(t *testing.T) {
	l := stocked(t)
	do(t, l, hold("sold", 10, line("a", 1)), hold("back", 10, line("a", 2)), hold("lapsed", 5, line("b", 1)), hold("live", 10, line("b", 2)))
	do(t, l, commit("c", "sold"), release("f", "back"), tick("t", 100005))
	for _, name := range []string{"none", "sold", "back", "lapsed", "c", "t", "1", times('k', 64)} {
		wantDone(t, l, commit("x", name), no("x", api.ErrNoHold, 0))
		wantDone(t, l, release("x", name), no("x", api.ErrNoHold, 0))
		wantDone(t, l, extend("x", name, 5), no("x", api.ErrNoHold, 0))
	}
	wantLevel(t, l, "a", 9, 0)
	wantLevel(t, l, "b", 5, 2)
	wantNext(t, l, 100010, true)
}

// P12.4: what is held is sold, or free again.
func TestP12_4CommitAndRelease(t *testing.T) {
	l := stocked(t)
	do(t, l, hold("h", 10, line("b", 2), line("a", 3)), hold("i", 10, line("b", 1), line("a", 4)))
	wantDone(t, l, commit("c", "h"), ok("c"))
	wantLevel(t, l, "a", 7, 4)
	wantLevel(t, l, "b", 3, 1)
	wantDone(t, l, release("f", "i"), ok("f"))
	wantLevel(t, l, "a", 7, 0)
	wantLevel(t, l, "b", 3, 0)
	wantNext(t, l, 0, false)
	wantDone(t, l, writeoff("w", line("a", 7), line("b", 3)), ok("w"))
	wantDone(t, l, tick("t", 100010), okAt("t", 100010))
	wantLevel(t, l, "a", 0, 0)
}

// P12.4: Extend to a later deadline and to an earlier one, reckoned from the clock.
func TestP12_4Extend(t *testing.T) {
	l := stocked(t)
	do(t, l, hold("h", 10, line("a", 3)))
	wantDone(t, l, extend("e", "h", 20), okAt("e", 100020))
	wantNext(t, l, 100020, true)
	wantDone(t, l, tick("t", 100010), okAt("t", 100010))
	wantLevel(t, l, "a", 10, 3)
	wantDone(t, l, extend("f", "h", 4), okAt("f", 100014))
	wantNext(t, l, 100014, true)
	wantDone(t, l, extend("e", "h", 20), okAt("e", 100020))
	wantNext(t, l, 100014, true)
	wantDone(t, l, extend("g", "h", api.MaxTtl), okAt("g", 100010+1<<31))
	wantDone(t, l, extend("i", "h", 1), okAt("i", 100011))
	wantDone(t, l, tick("u", 100011), okAt("u", 100011))
	wantLevel(t, l, "a", 10, 0)
	wantNext(t, l, 0, false)
}

// P12.4: Read answers one level a code, in order, and never minds what is remembered, nor what is full.
func TestP12_4Read(t *testing.T) {
	l := stocked(t)
	do(t, l, hold("h", 10, line("a", 3)))
	a, b, c := api.Level{Code: "a", OnHand: 10, Held: 3}, api.Level{Code: "b", OnHand: 5}, api.Level{Code: "c"}
	wantDone(t, l, read("x", "a"), levels("x", a))
	wantDone(t, l, read("x", "c", "a", "b", "a"), levels("x", a, b, c))
	wantDone(t, l, read("h", "b"), levels("h", b))
	wantDone(t, l, read("h", "b"), levels("h", b))
	wantDone(t, l, read("x", "b", "d", "e"), no("x", api.ErrNoCode, 1))
	wantDone(t, l, read("x", "a", "b", "c", "cc"), no("x", api.ErrNoCode, 3))
	s := l.State()
	want(t, "a Read is not remembered", len(s.Done), 2)
	want(t, "nor counted", s.Lsn, 3)
}

// P12.4: Save answers OK, whatever is remembered, and has no effect.
func TestP12_4Save(t *testing.T) {
	l := stocked(t)
	do(t, l, hold("h", 10, line("a", 3)))
	before := l.State()
	for _, id := range []string{"s", "s", "h", "2"} {
		wantDone(t, l, save(id), ok(id))
	}
	wantState(t, l, before)
}

// P12.4: the clock goes on and never back; holds lapse at their deadline, not one ahead of it.
func TestP12_4Tick(t *testing.T) {
	l := stocked(t)
	do(t, l, hold("h", 10, line("a", 3)), hold("i", 11, line("a", 2), line("b", 1)))
	wantDone(t, l, tick("t1", 99999), okAt("t1", 100000))
	wantDone(t, l, tick("t2", 0), okAt("t2", 100000))
	wantDone(t, l, tick("t3", 100000), okAt("t3", 100000))
	wantDone(t, l, tick("t4", 100009), okAt("t4", 100009))
	wantLevel(t, l, "a", 10, 5)
	wantDone(t, l, tick("t5", 100010), okAt("t5", 100010))
	wantLevel(t, l, "a", 10, 2)
	wantLevel(t, l, "b", 5, 1)
	wantNext(t, l, 100011, true)
	wantDone(t, l, tick("t6", 100012), okAt("t6", 100012))
	wantLevel(t, l, "a", 10, 0)
	wantLevel(t, l, "b", 5, 0)
	wantDone(t, l, tick("t5", 100010), okAt("t5", 100010))
	want(t, "the clock", l.State().Now, 100012)
	wantDone(t, l, tick("t7", api.MaxNow), okAt("t7", api.MaxNow))
	wantDone(t, l, hold("z", api.MaxTtl, line("a", 1)), okAt("z", 1<<39+1<<31))
	wantDone(t, l, tick("t8", api.MaxNow), okAt("t8", api.MaxNow))
	wantLevel(t, l, "a", 10, 1)
}

// P12.4: each of many holds lapses at its deadline, in steps of any width.
func TestP12_4TickOfManyHolds(t *testing.T) {
	deadline := func(i int) int { return 1 + (i*i*37)%4096 }
	for _, step := range []int{3, 7, 64, 1000, 5000} {
		l := made(t, api.MaxRoom, "a")
		do(t, l, restock("r", line("a", 1000)))
		for i, id := range names(200) {
			do(t, l, hold(id, deadline(i), line("a", 1+i%3)))
		}
		for at := 0; at < 4096; at += step {
			do(t, l, tick("t"+strconv.Itoa(at), at))
			held := 0
			for i := range 200 {
				if deadline(i) > at {
					held += 1 + i%3
				}
			}
			wantLevel(t, l, "a", 1000, held)
		}
	}
}

// P12.4: remembered requests are forgotten at At + KeptFor, not one ahead of it; behind that their Id is free.
func TestP12_4Forgotten(t *testing.T) {
	l := stocked(t)
	do(t, l, restock("r", line("a", 1)), tick("t", 100001), restock("s", line("a", 1)))
	wantDone(t, l, tick("u", 100000+86399), okAt("u", 186399))
	want(t, "all remembered", len(l.State().Done), 5)
	wantDone(t, l, restock("r", line("a", 1)), ok("r"))
	wantLevel(t, l, "a", 12, 0)
	wantDone(t, l, restock("r", line("a", 2)), no("r", api.ErrOther, 0))
	wantDone(t, l, tick("v", 100000+86400), okAt("v", 186400))
	wantDone(t, l, restock("s", line("a", 2)), no("s", api.ErrOther, 0))
	wantDone(t, l, tick("2", 0), okAt("2", 186400))
	wantDone(t, l, restock("r", line("a", 2)), ok("r"))
	wantLevel(t, l, "a", 14, 0)
	wantDone(t, l, tick("w", 100001+86400), okAt("w", 186401))
	wantDone(t, l, restock("s", line("a", 2)), ok("s"))
	wantLevel(t, l, "a", 16, 0)
	s := l.State()
	for i, id := range []string{"2", "r", "s", "u", "v", "w"} {
		want(t, "remembered", s.Done[i].Request.Id, id)
	}
	want(t, "so many", len(s.Done), 6)
}

// P12.4: a Tick is remembered at the clock behind it, and is not forgotten by itself.
func TestP12_4TickRemembered(t *testing.T) {
	l := made(t, 1000, "a")
	wantDone(t, l, tick("t", api.MaxNow), okAt("t", api.MaxNow))
	wantDone(t, l, tick("u", 5), okAt("u", api.MaxNow))
	wantState(t, l, api.State{Room: 1000, Lsn: 2, Now: api.MaxNow, Levels: []api.Level{{Code: "a"}}, Done: []api.Done{{Request: tick("t", api.MaxNow), At: api.MaxNow}, {Request: tick("u", 5), At: api.MaxNow}}})
}

// P12.4, 2: a request that is remembered, sent again as it was, with its lines in another order or parted, and as another one.
func TestP12_4SentAgain(t *testing.T) {
	l := stocked(t)
	do(t, l, restock("r", line("b", 3), line("a", 2)), hold("h", 10, line("a", 4), line("b", 2)), extend("e", "h", 30), tick("t", 100007), writeoff("w", line("a", 1)), hold("i", 9, line("a", 1)), release("f", "i"), commit("c", "h"))
	before := l.State()
	for _, x := range []struct {
		r     api.Request
		reply api.Reply
	}{
		{restock("r", line("b", 3), line("a", 2)), ok("r")},
		{restock("r", line("a", 2), line("b", 3)), ok("r")},
		{restock("r", line("b", 1), line("a", 1), line("b", 2), line("a", 1)), ok("r")},
		{hold("h", 10, line("b", 2), line("a", 4)), okAt("h", 100010)},
		{hold("h", 10, line("b", 1), line("a", 4), line("b", 1)), okAt("h", 100010)},
		{extend("e", "h", 30), okAt("e", 100030)},
		{tick("t", 100007), okAt("t", 100007)},
		{writeoff("w", line("a", 1)), ok("w")},
		{hold("i", 9, line("a", 1)), okAt("i", 100016)},
		{release("f", "i"), ok("f")},
		{commit("c", "h"), ok("c")},
		{restock("r", line("a", 2)), no("r", api.ErrOther, 0)},
		{restock("r", line("a", 2), line("b", 3), line("c", 1)), no("r", api.ErrOther, 0)},
		{restock("r", line("a", 3), line("b", 2)), no("r", api.ErrOther, 0)},
		{restock("r", line("a", 2), line("d", 3)), no("r", api.ErrOther, 0)},
		{writeoff("r", line("a", 2), line("b", 3)), no("r", api.ErrOther, 0)},
		{hold("h", 11, line("a", 4), line("b", 2)), no("h", api.ErrOther, 0)},
		{writeoff("h", line("a", 4), line("b", 2)), no("h", api.ErrOther, 0)},
		{extend("e", "h", 31), no("e", api.ErrOther, 0)},
		{extend("e", "i", 30), no("e", api.ErrOther, 0)},
		{extend("t", "nobody", 30), no("t", api.ErrOther, 0)},
		{tick("t", 100008), no("t", api.ErrOther, 0)},
		{tick("r", 100007), no("r", api.ErrOther, 0)},
		{release("c", "h"), no("c", api.ErrOther, 0)},
		{commit("c", "i"), no("c", api.ErrOther, 0)},
		{hold("w", 1, line("a", 1)), no("w", api.ErrOther, 0)},
		{restock("r", line("a", 0)), no("r", api.ErrQty, 0)},
	} {
		wantDone(t, l, x.r, x.reply)
		wantState(t, l, before)
	}
}

// P12.4, 3: the first line whose code is not in the catalogue, ahead of all that a kind asks.
func TestP12_4NoCode(t *testing.T) {
	l := stocked(t)
	for _, code := range []string{"d", "A", "aa", "!", "~", times('a', 40)} {
		wantDone(t, l, restock("r", line(code, 1)), no("r", api.ErrNoCode, 0))
		wantDone(t, l, writeoff("r", line("c", 1), line(code, 1), line("x", 1)), no("r", api.ErrNoCode, 1))
		wantDone(t, l, hold("r", 1, line("c", 1), line("c", 1), line(code, 1)), no("r", api.ErrNoCode, 2))
		wantDone(t, l, read("r", "b", "a", "c", code), no("r", api.ErrNoCode, 3))
	}
	do(t, l, restock("m", line("c", api.MaxStock)))
	wantDone(t, l, restock("r", line("c", 1), line("d", 1)), no("r", api.ErrNoCode, 1))
}

// P12.10: what was refused leaves nothing behind: sent again it is asked anew.
func TestP12_10RefusedIsAskedAnew(t *testing.T) {
	l := stocked(t)
	wantDone(t, l, hold("h", 10, line("c", 1)), no("h", api.ErrStock, 0))
	wantDone(t, l, commit("x", "h"), no("x", api.ErrNoHold, 0))
	do(t, l, restock("r", line("c", 1)))
	wantDone(t, l, hold("h", 10, line("c", 1)), okAt("h", 100010))
	wantDone(t, l, commit("x", "h"), ok("x"))
	wantDone(t, l, writeoff("v", line("a", 11)), no("v", api.ErrStock, 0))
	wantDone(t, l, restock("v", line("a", 11)), ok("v"))
	wantLevel(t, l, "a", 21, 0)
}
