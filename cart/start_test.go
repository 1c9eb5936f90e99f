package cart_test

import (
	"strconv"
	"testing"

	"larder/api"
)

// outside are numbers of handlers that there are not, of n.
func outside(n int) []int { return []int{-1, n, n + 1, 64, greatest, least} }

func TestP14_2_StartOfHandlers(t *testing.T) {
	for _, n := range []int{1, 2, 16} {
		c := plain()
		c.Handlers = n
		m, _ := fresh(t, c)
		for _, h := range outside(n) {
			want(t, "Start("+strconv.Itoa(h)+")", m.Start(h, read("r", "a")), api.ErrHandler)
			want(t, "Start("+strconv.Itoa(h)+") of nothing", m.Start(h, api.Request{}), api.ErrHandler)
		}
		for _, h := range []int{n - 1, 0} {
			want(t, "phase", standing(m, h), "Idle")
			want(t, "Start("+strconv.Itoa(h)+")", m.Start(h, read("r", "a")), api.OK)
			want(t, "phase", standing(m, h), "Begin")
			if n == 1 {
				break
			}
		}
	}
}

// TestP14_2_StartAtWork: a handler that is at work is busy in every phase, and goes on with what it has.
func TestP14_2_StartAtWork(t *testing.T) {
	c := plain()
	for _, r := range []api.Request{restock("1", line("a", 5)), read("r", "a", "b"), save("s"), {}} {
		m, _ := fresh(t, c)
		start(t, m, 0, r)
		steps := 0
		for standing(m, 0) != "Idle" {
			at := standing(m, 0)
			want(t, "Start in "+at, m.Start(0, writeoff("w", line("b", 1))), api.ErrBusy)
			want(t, "phase behind it", standing(m, 0), at)
			step(t, m, 0)
			steps++
		}
		if x, _ := m.Reply(0); x.Id != r.Id || steps < 2 {
			t.Errorf("%s: %s behind %d steps", show(r), show(x), steps)
		}
		want(t, "Start when it is idle again", m.Start(0, r), api.OK)
	}
}

// TestP14_3_NoSuchHandler: what is asked of handlers and stripes that there are not.
func TestP14_3_NoSuchHandler(t *testing.T) {
	c := plain()
	s := empty(c)
	s.Lsn = 6
	m, _ := memory(t, c, s, 1)
	ask(t, m, 0, restock("1", line("a", 5)))
	start(t, m, 1, restock("2", line("a", 5)))
	to(t, m, 1, "Append")
	for _, h := range outside(2) {
		phase, i := m.Phase(h)
		if phase != -1 || i != 0 {
			t.Errorf("Phase(%d): %d, %d", h, phase, i)
		}
		want(t, "On", m.On(h), -1)
		want(t, "Number", m.Number(h), 0)
		want(t, "Step", m.Step(h), false)
		if x, ok := m.Reply(h); ok || !sameReply(x, api.Reply{}) {
			t.Errorf("Reply(%d): %s, %v", h, show(x), ok)
		}
	}
	for _, stripe := range []int{-1, 4, 5, 64, greatest, least} {
		want(t, "Last("+strconv.Itoa(stripe)+")", m.Last(stripe), 0)
	}
	for stripe := range 4 {
		if n := m.Last(stripe); n != 6 && n != 7 {
			t.Errorf("Last(%d): %d", stripe, n)
		}
	}
	want(t, "Number(1)", m.Number(1), 8)
}

// TestP14_3_Reply: the last reply stays while the next request is at work, and there is none ahead of the first end.
func TestP14_3_Reply(t *testing.T) {
	m, _ := fresh(t, plain())
	start(t, m, 1, restock("1", line("a", 5)))
	for standing(m, 1) != "Idle" {
		if x, ok := m.Reply(1); ok || !sameReply(x, api.Reply{}) {
			t.Fatalf("in %s: %s, %v", standing(m, 1), show(x), ok)
		}
		step(t, m, 1)
	}
	wantReply(t, m, 1, api.Reply{Id: "1"})
	start(t, m, 1, read("r", "a"))
	for standing(m, 1) != "Idle" {
		wantReply(t, m, 1, api.Reply{Id: "1"})
		step(t, m, 1)
	}
	wantReply(t, m, 1, api.Reply{Id: "r", Levels: []api.Level{{Code: "a", OnHand: 5}}})
	if _, ok := m.Reply(0); ok {
		t.Error("a handler that had no request has a reply")
	}
}

// TestP14_3_Number: from Number on to the end, and only of what has an effect.
func TestP14_3_Number(t *testing.T) {
	m, _ := fresh(t, plain())
	numbers := func(r api.Request) string {
		start(t, m, 0, r)
		l := ""
		for standing(m, 0) != "Idle" {
			l += strconv.Itoa(m.Number(0))
			step(t, m, 0)
		}
		want(t, "Number behind the end", m.Number(0), 0)
		return l
	}
	// Begin, two locks or one, Check, Reserve, Number: 0; then the number.
	got := numbers(restock(in("", 1, 4)+"x", line("a", 5)))
	zeros := 0
	for zeros < len(got) && got[zeros] == '0' {
		zeros++
	}
	if zeros != 8 && zeros != 6 || got[zeros:] != "1111111111111"[:len(got)-zeros] {
		t.Errorf("numbers: %s", got)
	}
	for _, r := range []api.Request{read("r", "a"), save("s"), writeoff("w", line("b", 1)), restock("", line("a", 1))} {
		for _, n := range numbers(r) {
			if n != '0' {
				t.Errorf("%s has a number", show(r))
			}
		}
	}
}
