package stock_test

import (
	"fmt"
	"math"
	"slices"
	"strings"
	"testing"

	"larder/api"
	"larder/stock"
)

const (
	greatest = math.MaxInt
	least    = math.MinInt
)

func want[T comparable](t *testing.T, name string, got, want T) {
	t.Helper()
	if got != want {
		t.Errorf("%s: %v, want %v", name, got, want)
	}
}

// Requests, short.

func line(code string, qty int) api.Line { return api.Line{Code: code, Qty: qty} }

func restock(id string, l ...api.Line) api.Request {
	return api.Request{Id: id, Kind: api.KindRestock, Lines: l}
}

func writeoff(id string, l ...api.Line) api.Request {
	return api.Request{Id: id, Kind: api.KindWriteoff, Lines: l}
}

func hold(id string, ttl int, l ...api.Line) api.Request {
	return api.Request{Id: id, Kind: api.KindHold, Lines: l, Ttl: ttl}
}

func commit(id, name string) api.Request {
	return api.Request{Id: id, Kind: api.KindCommit, Hold: name}
}

func release(id, name string) api.Request {
	return api.Request{Id: id, Kind: api.KindRelease, Hold: name}
}

func extend(id, name string, ttl int) api.Request {
	return api.Request{Id: id, Kind: api.KindExtend, Hold: name, Ttl: ttl}
}

func read(id string, codes ...string) api.Request {
	r := api.Request{Id: id, Kind: api.KindRead}
	for _, c := range codes {
		r.Lines = append(r.Lines, line(c, 0))
	}
	return r
}

func tick(id string, now int) api.Request {
	return api.Request{Id: id, Kind: api.KindTick, Now: now}
}

func save(id string) api.Request { return api.Request{Id: id, Kind: api.KindSave} }

// well answers a request of each kind that is well formed and uses all fields that the kind has.
func well(kind int) api.Request {
	switch kind {
	case api.KindRestock:
		return restock("r", line("a", 1), line("b", 2))
	case api.KindWriteoff:
		return writeoff("w", line("b", 1), line("a", 2))
	case api.KindHold:
		return hold("h", 7, line("a", 3))
	case api.KindCommit:
		return commit("c", "h")
	case api.KindRelease:
		return release("f", "h")
	case api.KindExtend:
		return extend("e", "h", 9)
	case api.KindRead:
		return read("x", "b", "a")
	case api.KindTick:
		return tick("t", 5)
	}
	return save("s")
}

// Replies, short.

func ok(id string) api.Reply { return api.Reply{Id: id} }

func okAt(id string, now int) api.Reply { return api.Reply{Id: id, Now: now} }

func no(id string, e api.Errno, line int) api.Reply {
	return api.Reply{Id: id, Err: e, Line: line}
}

// made answers a new ledger of codes.
func made(t *testing.T, room int, codes ...string) *stock.Ledger {
	t.Helper()
	l, e := stock.New(codes, room)
	if l == nil || e != api.OK {
		t.Fatalf("New(%q, %d): %v, %d", codes, room, l, e)
	}
	return l
}

// from answers the ledger of a state that must be sound.
func from(t *testing.T, s api.State) *stock.Ledger {
	t.Helper()
	l, e := stock.From(s)
	if l == nil || e != api.OK {
		t.Fatalf("From(%s): %v, %d", show(s), l, e)
	}
	return l
}

// wantDone asks a ledger something; Would must have said the same, and have changed nothing; what is refused must change nothing either.
func wantDone(t *testing.T, l *stock.Ledger, r api.Request, reply api.Reply) {
	t.Helper()
	before := l.State()
	would := l.Would(r)
	if s := l.State(); !sameState(s, before) {
		t.Errorf("Would(%s) has changed %s to %s", show(r), show(before), show(s))
	}
	got := l.Do(r)
	if !sameReply(got, reply) {
		t.Errorf("Do(%s): %s, want %s", show(r), show(got), show(reply))
	}
	if !sameReply(would, got) {
		t.Errorf("Would(%s): %s, Do: %s", show(r), show(would), show(got))
	}
	if s := l.State(); got.Err != api.OK && !sameState(s, before) {
		t.Errorf("Do(%s), refused with %d, has changed %s to %s", show(r), got.Err, show(before), show(s))
	}
}

// do asks a ledger for something that it must do.
func do(t *testing.T, l *stock.Ledger, requests ...api.Request) {
	t.Helper()
	for _, r := range requests {
		if got := l.Do(r); got.Err != api.OK {
			t.Fatalf("Do(%s): %s", show(r), show(got))
		}
	}
}

func wantLevel(t *testing.T, l *stock.Ledger, code string, onHand, held int) {
	t.Helper()
	v, e := l.Level(code)
	if e != api.OK || v != (api.Level{Code: code, OnHand: onHand, Held: held}) {
		t.Errorf("Level(%q): %v, %d, want %d, %d", code, v, e, onHand, held)
	}
}

func wantNext(t *testing.T, l *stock.Ledger, at int, some bool) {
	t.Helper()
	got, there := l.Next()
	if got != at || there != some {
		t.Errorf("Next: %d, %v, want %d, %v", got, there, at, some)
	}
}

// wantState holds a ledger's state against another, which must be sound and weigh no more than it says.
func wantState(t *testing.T, l *stock.Ledger, s api.State) {
	t.Helper()
	if got := l.State(); !sameState(got, s) {
		t.Errorf("State: %s, want %s", show(got), show(s))
	}
	if !stock.Sound(s) {
		t.Errorf("not sound: %s", show(s))
	}
}

func show(v any) string { return fmt.Sprintf("%+v", v) }

func sameRequest(r, s api.Request) bool {
	if !slices.Equal(r.Lines, s.Lines) {
		return false
	}
	return r.Id == s.Id && r.Kind == s.Kind && r.Hold == s.Hold && r.Ttl == s.Ttl && r.Now == s.Now
}

func sameReply(r, s api.Reply) bool {
	return slices.Equal(r.Levels, s.Levels) && r.Id == s.Id && r.Err == s.Err && r.Line == s.Line && r.Now == s.Now
}

func sameHeld(g, h api.Held) bool {
	return g.Id == h.Id && g.Deadline == h.Deadline && slices.Equal(g.Lines, h.Lines)
}

func sameDone(d, f api.Done) bool {
	return d.At == f.At && sameRequest(d.Request, f.Request)
}

func sameState(s, u api.State) bool {
	return s.Room == u.Room && s.Lsn == u.Lsn && s.Now == u.Now && slices.Equal(s.Levels, u.Levels) && slices.EqualFunc(s.Holds, u.Holds, sameHeld) && slices.EqualFunc(s.Done, u.Done, sameDone)
}

func copyRequest(r api.Request) api.Request {
	r.Lines = append([]api.Line(nil), r.Lines...)
	return r
}

// copyState answers a state in memory of its own.
func copyState(s api.State) api.State {
	u := api.State{Room: s.Room, Lsn: s.Lsn, Now: s.Now}
	u.Levels = append(u.Levels, s.Levels...)
	for _, h := range s.Holds {
		u.Holds = append(u.Holds, api.Held{Id: h.Id, Lines: append([]api.Line(nil), h.Lines...), Deadline: h.Deadline})
	}
	for _, d := range s.Done {
		u.Done = append(u.Done, api.Done{Request: copyRequest(d.Request), At: d.At})
	}
	return u
}

// times answers a text of n times the same byte.
func times(b byte, n int) string { return strings.Repeat(string([]byte{b}), n) }

// names answers n different texts of two bytes, in order.
func names(n int) []string {
	var l []string
	for i := range n {
		l = append(l, string([]byte{byte(33 + i/94), byte(33 + i%94)}))
	}
	return l
}
