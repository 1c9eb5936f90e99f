package stock_test

import (
	"testing"

	"larder/api"
	"larder/stock"
)

func store(t *testing.T) *stock.Ledger {
	t.Helper()
	return made(t, 4000, "a", "b")
}

func levels(id string, l ...api.Level) api.Reply { return api.Reply{Id: id, Levels: l} }

func TestExample1(t *testing.T) {
	l := store(t)
	wantDone(t, l, restock("1", line("a", 5)), ok("1"))
	wantDone(t, l, read("x", "a", "b"), levels("x", api.Level{Code: "a", OnHand: 5}, api.Level{Code: "b"}))
	wantDone(t, l, restock("1", line("a", 5)), ok("1"))
	wantLevel(t, l, "a", 5, 0)
	wantDone(t, l, restock("1", line("a", 6)), no("1", api.ErrOther, 0))
	wantLevel(t, l, "a", 5, 0)
}

// Examples 2, 3 and 4 go on from one another.
func TestExample2To4(t *testing.T) {
	l := store(t)
	do(t, l, restock("1", line("a", 5)))
	wantDone(t, l, hold("h", 10, line("a", 2), line("b", 1)), no("h", api.ErrStock, 1))
	wantDone(t, l, hold("h", 10, line("a", 2), line("a", 2)), okAt("h", 10))
	wantLevel(t, l, "a", 5, 4)

	wantDone(t, l, writeoff("w", line("a", 2)), no("w", api.ErrStock, 0))
	wantDone(t, l, writeoff("w", line("a", 1)), ok("w"))
	wantLevel(t, l, "a", 4, 4)

	wantDone(t, l, commit("c", "h"), ok("c"))
	wantLevel(t, l, "a", 0, 0)
	wantDone(t, l, commit("c", "h"), ok("c"))
	wantDone(t, l, commit("d", "h"), no("d", api.ErrNoHold, 0))
	wantLevel(t, l, "a", 0, 0)
}

func TestExample5And6(t *testing.T) {
	l := store(t)
	do(t, l, restock("1", line("a", 5)), hold("h", 10, line("a", 1)), hold("i", 11, line("a", 1)))
	wantDone(t, l, tick("t", 10), okAt("t", 10))
	wantLevel(t, l, "a", 5, 1)
	wantDone(t, l, commit("c", "h"), no("c", api.ErrNoHold, 0))
	wantDone(t, l, tick("u", 3), okAt("u", 10))
	wantDone(t, l, commit("c", "i"), ok("c"))
	wantLevel(t, l, "a", 4, 0)
}

func TestExample7(t *testing.T) {
	l := store(t)
	do(t, l, restock("1", line("a", 1)))
	wantDone(t, l, restock("m", line("a", api.MaxStock)), no("m", api.ErrOver, 0))
	wantDone(t, l, restock("m", line("a", api.MaxStock), line("a", 1)), no("m", api.ErrOver, 1))
	wantLevel(t, l, "a", 1, 0)
}

func TestExample8(t *testing.T) {
	l := store(t)
	x := read("x", "a")
	x.Lines[0].Qty = 1
	wantDone(t, l, x, no("x", api.ErrQty, 0))
	wantDone(t, l, hold("", 1, line("a", 1)), no("", api.ErrId, 0))
	wantDone(t, l, api.Request{Id: "k"}, no("k", api.ErrKind, 0))
	s := save("s")
	s.Ttl = 1
	wantDone(t, l, s, no("s", api.ErrUnused, 0))
}

func TestExample9(t *testing.T) {
	wantDone(t, store(t), hold("h2", 1, line("c", 1)), no("h2", api.ErrNoCode, 0))
}

func TestExample10(t *testing.T) {
	l := store(t)
	do(t, l, restock("1", line("a", 5)), tick("t", 10), restock("2", line("a", 1)), tick("u", 11), restock("3", line("a", 1)))
	wantDone(t, l, tick("v", 86410), okAt("v", 86410))
	wantDone(t, l, restock("1", line("a", 6)), ok("1"))
	wantDone(t, l, restock("2", line("a", 6)), ok("2"))
	wantDone(t, l, restock("3", line("a", 6)), no("3", api.ErrOther, 0))
	wantLevel(t, l, "a", 19, 0)
}
