package cart_test

import (
	"fmt"
	"math"
	"slices"
	"strconv"
	"strings"
	"testing"

	"larder/api"
	"larder/cart"
	"larder/disk"
	"larder/lock"
	"larder/mend"
	"larder/stock"
)

const (
	greatest = math.MaxInt
	least    = math.MinInt
)

func want[T comparable](t *testing.T, name string, got, want T) {
	t.Helper()
	if got != want {
		t.Errorf("%s: %v, want %v", name, got, want)
	}
}

// show answers a thing in words, as many of them as one can read.
func show(v any) string { return fmt.Sprintf("%.900s", fmt.Sprintf("%+v", v)) }

// plain is the configuration of the document's examples.
func plain() api.Config {
	return api.Config{Codes: []string{"a", "b"}, Stripes: 4, Handlers: 2, Sectors: 40, Slot: 8}
}

// Requests, short.

func line(code string, qty int) api.Line { return api.Line{Code: code, Qty: qty} }

func restock(id string, l ...api.Line) api.Request {
	return api.Request{Id: id, Kind: api.KindRestock, Lines: l}
}

func writeoff(id string, l ...api.Line) api.Request {
	return api.Request{Id: id, Kind: api.KindWriteoff, Lines: l}
}

func hold(id string, ttl int, l ...api.Line) api.Request {
	return api.Request{Id: id, Kind: api.KindHold, Lines: l, Ttl: ttl}
}

func commit(id, name string) api.Request {
	return api.Request{Id: id, Kind: api.KindCommit, Hold: name}
}

func release(id, name string) api.Request {
	return api.Request{Id: id, Kind: api.KindRelease, Hold: name}
}

func extend(id, name string, ttl int) api.Request {
	return api.Request{Id: id, Kind: api.KindExtend, Hold: name, Ttl: ttl}
}

func read(id string, codes ...string) api.Request {
	r := api.Request{Id: id, Kind: api.KindRead}
	for _, code := range codes {
		r.Lines = append(r.Lines, line(code, 0))
	}
	return r
}

func tick(id string, now int) api.Request {
	return api.Request{Id: id, Kind: api.KindTick, Now: now}
}

func save(id string) api.Request { return api.Request{Id: id, Kind: api.KindSave} }

// in answers a text that begins so and lies in a stripe.
func in(prefix string, stripe, stripes int) string {
	for i := 0; ; i++ {
		if text := prefix + strconv.Itoa(i); lock.Stripe(text, stripes) == stripe {
			return text
		}
	}
}

// manyIn answers n such texts, in order.
func manyIn(prefix string, n, stripe, stripes int) []string {
	var l []string
	for i := 0; len(l) < n; i++ {
		if text := prefix + strconv.Itoa(i); lock.Stripe(text, stripes) == stripe {
			l = append(l, text)
		}
	}
	slices.Sort(l)
	return l
}

// names answers n texts of so many bytes, in order.
func names(n, size int) []string {
	var l []string
	for i := range n {
		l = append(l, strings.Repeat("x", size-2)+string([]byte{byte(33 + i/94), byte(33 + i%94)}))
	}
	return l
}

// States.

func empty(c api.Config) api.State {
	s := api.State{Room: (c.Slot - 1) * 128}
	for _, code := range c.Codes {
		s.Levels = append(s.Levels, api.Level{Code: code})
	}
	return s
}

// behind answers the state of a ledger that has done all of a list.
func behind(t *testing.T, s api.State, list ...api.Request) api.State {
	t.Helper()
	l := ledgerOf(t, s)
	for _, r := range list {
		if reply := l.Do(r); reply.Err != api.OK {
			t.Fatalf("Do(%s): %s", show(r), show(reply))
		}
	}
	return l.State()
}

func ledgerOf(t *testing.T, s api.State) *stock.Ledger {
	t.Helper()
	l, e := stock.From(s)
	if e != api.OK {
		t.Fatalf("not sound: %s", show(s))
	}
	return l
}

// sameState holds two states against each other, nil and empty lists alike.
func sameState(s, u api.State) bool {
	return s.Room == u.Room && s.Lsn == u.Lsn && s.Now == u.Now && slices.Equal(s.Levels, u.Levels) &&
		slices.EqualFunc(s.Holds, u.Holds, sameHold) && slices.EqualFunc(s.Done, u.Done, sameDone)
}

func sameHold(h, k api.Held) bool {
	return h.Id == k.Id && h.Deadline == k.Deadline && slices.Equal(h.Lines, k.Lines)
}

func sameDone(d, e api.Done) bool { return d.At == e.At && sameRequest(d.Request, e.Request) }

func sameRequest(r, q api.Request) bool {
	return r.Id == q.Id && r.Kind == q.Kind && slices.Equal(r.Lines, q.Lines) && r.Hold == q.Hold && r.Ttl == q.Ttl && r.Now == q.Now
}

func sameReply(x, y api.Reply) bool {
	return x.Id == y.Id && x.Err == y.Err && x.Line == y.Line && slices.Equal(x.Levels, y.Levels) && x.Now == y.Now
}

func isZero(s api.State) bool {
	return s.Room == 0 && s.Lsn == 0 && s.Now == 0 && len(s.Levels) == 0 && len(s.Holds) == 0 && len(s.Done) == 0
}

func copyRequest(r api.Request) api.Request {
	r.Lines = append([]api.Line(nil), r.Lines...)
	return r
}

// copyState answers a state in memory of its own.
func copyState(s api.State) api.State {
	u := api.State{Room: s.Room, Lsn: s.Lsn, Now: s.Now}
	u.Levels = append(u.Levels, s.Levels...)
	for _, h := range s.Holds {
		u.Holds = append(u.Holds, api.Held{Id: h.Id, Lines: append([]api.Line(nil), h.Lines...), Deadline: h.Deadline})
	}
	for _, d := range s.Done {
		u.Done = append(u.Done, api.Done{Request: copyRequest(d.Request), At: d.At})
	}
	return u
}

// Memories.

// diskOf answers a disk that has checkpoint epoch of a state, and so many operations behind it.
func diskOf(t *testing.T, c api.Config, s api.State, epoch, operations int) *disk.Disk {
	t.Helper()
	body, head, e := mend.Layout(c, epoch, s)
	if e != api.OK {
		t.Fatalf("Layout(%s, %d, %s): %d", show(c), epoch, show(s), e)
	}
	image := make([]byte, c.Sectors*128)
	for _, w := range append(body, head) {
		copy(image[w.Sector*128:], w.Bytes)
	}
	d, e := disk.New(image, c.Sectors)
	if e != api.OK {
		t.Fatalf("disk.New: %d", e)
	}
	for range operations {
		d.Flush()
	}
	return d
}

// memory answers the memory of a store with a state, and its disk.
func memory(t *testing.T, c api.Config, s api.State, epoch int) (*cart.Shared, *disk.Disk) {
	t.Helper()
	return memoryAt(t, c, s, epoch, 0)
}

func memoryAt(t *testing.T, c api.Config, s api.State, epoch, operations int) (*cart.Shared, *disk.Disk) {
	t.Helper()
	d := diskOf(t, c, s, epoch, operations)
	m, e := cart.New(d, c, s, epoch)
	if m == nil || e != api.OK {
		t.Fatalf("New: %d", e)
	}
	return m, d
}

// fresh answers the memory of a new store.
func fresh(t *testing.T, c api.Config) (*cart.Shared, *disk.Disk) {
	t.Helper()
	return memory(t, c, empty(c), 1)
}

var phaseNames = []string{"Idle", "Begin", "Ticket", "Enter", "Check", "Reserve", "Number", "Append", "Odd", "Apply", "Note", "Even", "Leave", "Wait", "Collect", "Write", "Barrier", "Reply", "Seq", "Look", "Again", "Role", "Body", "Fence", "Head", "Switch"}

// numbered are the phases that have numbers.
var numbered = map[int]bool{api.PhaseTicket: true, api.PhaseEnter: true, api.PhaseOdd: true, api.PhaseApply: true, api.PhaseEven: true, api.PhaseLeave: true, api.PhaseSeq: true, api.PhaseLook: true, api.PhaseAgain: true, api.PhaseBody: true}

// named answers a phase and its number in words.
func named(phase, i int) string {
	if phase < 0 || phase >= len(phaseNames) {
		return fmt.Sprintf("phase %d", phase)
	}
	if numbered[phase] || i != 0 {
		return phaseNames[phase] + strconv.Itoa(i)
	}
	return phaseNames[phase]
}

func standing(m *cart.Shared, h int) string { return named(m.Phase(h)) }

func start(t *testing.T, m *cart.Shared, h int, r api.Request) {
	t.Helper()
	if e := m.Start(h, r); e != api.OK {
		t.Fatalf("Start(%d, %s): %d", h, show(r), e)
	}
}

// step does one step that must be there.
func step(t *testing.T, m *cart.Shared, h int) {
	t.Helper()
	at := standing(m, h)
	if on := m.On(h); !m.Step(h) {
		t.Fatalf("handler %d in %s: no step, blocked on %d", h, at, on)
	} else if on != -1 {
		t.Fatalf("handler %d in %s: a step, though blocked on %d", h, at, on)
	}
}

// run steps a handler to its end, and answers the phases that it went through.
func run(t *testing.T, m *cart.Shared, h int) string {
	t.Helper()
	var l []string
	for range 5000 {
		at := standing(m, h)
		if at == "Idle" {
			return strings.Join(l, " ")
		}
		l = append(l, at)
		step(t, m, h)
	}
	t.Fatalf("no end: %.300s", strings.Join(l, " "))
	return ""
}

// to steps a handler until it stands in a phase.
func to(t *testing.T, m *cart.Shared, h int, phase string) {
	t.Helper()
	for range 5000 {
		if standing(m, h) == phase {
			return
		}
		step(t, m, h)
	}
	t.Fatalf("%s is never reached", phase)
}

// ask does a request alone, and answers its reply.
func ask(t *testing.T, m *cart.Shared, h int, r api.Request) api.Reply {
	t.Helper()
	start(t, m, h, r)
	run(t, m, h)
	x, ok := m.Reply(h)
	if !ok {
		t.Fatalf("no reply to %s", show(r))
	}
	return x
}

// wantRun starts a request, runs it, and asks for its phases and its reply.
func wantRun(t *testing.T, m *cart.Shared, h int, r api.Request, phases string, reply api.Reply) {
	t.Helper()
	start(t, m, h, r)
	wantRest(t, m, h, phases, reply)
}

// wantRest runs a request that was started, and asks for the phases that are left, and the reply.
func wantRest(t *testing.T, m *cart.Shared, h int, phases string, reply api.Reply) {
	t.Helper()
	if got := run(t, m, h); got != phases {
		t.Errorf("phases:\n%s, want\n%s", got, phases)
	}
	wantReply(t, m, h, reply)
}

func wantReply(t *testing.T, m *cart.Shared, h int, reply api.Reply) {
	t.Helper()
	if x, ok := m.Reply(h); !ok || !sameReply(x, reply) {
		t.Errorf("reply of %d: %s, %v; want %s", h, show(x), ok, show(reply))
	}
}

// wantBlocked asks that a handler is blocked on a thing, and that no step changes that.
func wantBlocked(t *testing.T, m *cart.Shared, h int, on int) {
	t.Helper()
	at, v, points := standing(m, h), m.View(), len(m.Points())
	want(t, "On", m.On(h), on)
	want(t, "Step", m.Step(h), false)
	want(t, "phase behind a Step that was none", standing(m, h), at)
	want(t, "View behind a Step that was none", m.View(), v)
	want(t, "points behind a Step that was none", len(m.Points()), points)
}

func wantPoints(t *testing.T, m *cart.Shared, points ...api.Point) {
	t.Helper()
	if got := m.Points(); !slices.Equal(got, points) {
		t.Errorf("points: %v, want %v", got, points)
	}
}

func wantState(t *testing.T, m *cart.Shared, s api.State) {
	t.Helper()
	if got := m.State(); !sameState(got, s) {
		t.Errorf("state: %s, want %s", show(got), show(s))
	}
}

// levelOf answers the level of a code in a state.
func levelOf(s api.State, code string) api.Level {
	i := slices.IndexFunc(s.Levels, func(v api.Level) bool { return v.Code == code })
	return s.Levels[i]
}

// repeat answers a text n times, with spaces between.
func repeat(text string, n int) string {
	return strings.TrimSpace(strings.Repeat(text+" ", n))
}

// counted answers a phase with the numbers from 0 to n - 1.
func counted(phase string, n int) string {
	var l []string
	for i := range n {
		l = append(l, phase+strconv.Itoa(i))
	}
	return strings.Join(l, " ")
}

// entered answers the phases in which n locks are taken.
func entered(n int) string {
	var l []string
	for i := range n {
		l = append(l, "Ticket"+strconv.Itoa(i), "Enter"+strconv.Itoa(i))
	}
	return strings.Join(l, " ")
}

// left answers the phases in which n locks are left.
func left(n int) string {
	var l []string
	for i := n - 1; i >= 0; i-- {
		l = append(l, "Leave"+strconv.Itoa(i))
	}
	return strings.Join(l, " ")
}

// flushed answers the phases of a flush of so many sectors, and the reply behind it.
func flushed(sectors int) string {
	return "Wait Collect " + repeat("Write", sectors) + " Barrier Wait Reply"
}

func phases(l ...string) string {
	return strings.Join(slices.DeleteFunc(l, func(s string) bool { return s == "" }), " ")
}

// stockWeight answers what a state weighs behind an effect.
func stockWeight(t *testing.T, s api.State, r api.Request) int {
	t.Helper()
	return stock.Weight(behind(t, s, r))
}
