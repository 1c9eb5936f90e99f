package sched_test

import (
	"cmp"
	"math"
	"math/rand"
	"slices"
	"testing"

	"larder/api"
	"larder/sched"
)

func TestP7_1New(t *testing.T) {
	for _, handlers := range append(extremes(), 0, api.MaxHandlers+1) {
		if b, e := sched.New(handlers); b != nil || e != api.ErrArg {
			t.Errorf("New(%d): %v, %d", handlers, b, e)
		}
	}
	for handlers := 1; handlers <= api.MaxHandlers; handlers++ {
		b := newBoard(t, handlers)
		for h := range handlers {
			wantState(t, b, h, api.StateIdle, 0)
		}
		wantState(t, b, handlers, -1, 0)
		wantReady(t, b)
		wantLongest(t, b, -1, 0)
	}
}

func TestP7_2FromStateToState(t *testing.T) {
	b := newBoard(t, 3)
	wantErrno(t, "Start", b.Start(1), api.OK)
	wantState(t, b, 1, api.StateReady, 0)
	wantErrno(t, "Block", b.Block(1, 7), api.OK)
	wantState(t, b, 1, api.StateBlocked, 7)
	wantWake(t, b, 7, 1)
	wantState(t, b, 1, api.StateReady, 0)
	wantErrno(t, "Finish", b.Finish(1), api.OK)
	wantState(t, b, 1, api.StateIdle, 0)
	wantErrno(t, "Start again", b.Start(1), api.OK)
	wantState(t, b, 1, api.StateReady, 0)
	for _, h := range []int{0, 2} {
		wantState(t, b, h, api.StateIdle, 0)
	}
}

func TestP7_2Refused(t *testing.T) {
	b := newBoard(t, 3)
	b.Start(1)
	b.Start(2)
	b.Block(2, 5)
	for _, h := range append(extremes(), 3, 4, api.MaxHandlers) {
		wantErrno(t, "Start, no handler", b.Start(h), api.ErrHandler)
		wantErrno(t, "Block, no handler", b.Block(h, 5), api.ErrHandler)
		wantErrno(t, "Finish, no handler", b.Finish(h), api.ErrHandler)
		wantState(t, b, h, -1, 0)
	}
	wantErrno(t, "Start, ready", b.Start(1), api.ErrBusy)
	wantErrno(t, "Start, blocked", b.Start(2), api.ErrBusy)
	wantErrno(t, "Block, idle", b.Block(0, 5), api.ErrIdle)
	wantErrno(t, "Block, blocked", b.Block(2, 5), api.ErrBlocked)
	wantErrno(t, "Block, blocked on another thing", b.Block(2, 6), api.ErrBlocked)
	wantErrno(t, "Finish, idle", b.Finish(0), api.ErrIdle)
	wantErrno(t, "Finish, blocked", b.Finish(2), api.ErrBlocked)
	wantState(t, b, 0, api.StateIdle, 0)
	wantState(t, b, 1, api.StateReady, 0)
	wantState(t, b, 2, api.StateBlocked, 5)
	wantWaiting(t, b, 5, 2)
	wantWaiting(t, b, 6)
	wantReady(t, b, 1)
}

func TestP7_2RefusedLeavesCounts(t *testing.T) {
	b := started(t, 2)
	b.Pick(1)
	b.Pick(1)
	wantErrno(t, "Start", b.Start(0), api.ErrBusy)
	wantErrno(t, "Block", b.Block(2, 0), api.ErrHandler)
	wantLongest(t, b, 0, 2)
}

func TestP7_3ThingsAreAnyInts(t *testing.T) {
	for _, on := range append(extremes(), 0, 1) {
		b := started(t, 2)
		wantErrno(t, "Block", b.Block(1, on), api.OK)
		wantState(t, b, 1, api.StateBlocked, on)
		wantWaiting(t, b, on, 1)
		wantReady(t, b, 0)
		wantWaiting(t, b, on/2+3)
		wantFirst(t, b, on/2+3, -1, false)
		wantWake(t, b, on/2+3)
		wantFirst(t, b, on, 1, true)
		wantFirst(t, b, on, -1, false)
		wantReady(t, b, 0, 1)
		wantState(t, b, 1, api.StateReady, 0)
	}
}

func TestP7_3InTheOrderOfBlocking(t *testing.T) {
	b := started(t, 6)
	for _, h := range []int{4, 1, 5, 2} {
		b.Block(h, 9)
	}
	b.Block(0, 8)
	wantWaiting(t, b, 9, 4, 1, 5, 2)
	wantWaiting(t, b, 8, 0)
	wantReady(t, b, 3)
	wantFirst(t, b, 9, 4, true)
	wantWaiting(t, b, 9, 1, 5, 2)
	wantReady(t, b, 3, 4)
	// One that comes back stands behind the others.
	b.Block(4, 9)
	wantWaiting(t, b, 9, 1, 5, 2, 4)
	wantFirst(t, b, 9, 1, true)
	wantWake(t, b, 9, 5, 2, 4)
	wantWake(t, b, 9)
	wantWaiting(t, b, 9)
	wantFirst(t, b, 9, -1, false)
	wantReady(t, b, 1, 2, 3, 4, 5)
	wantWaiting(t, b, 8, 0)
	b.Block(5, 9)
	wantWaiting(t, b, 9, 5)
}

func TestP7_3FromOneThingToAnother(t *testing.T) {
	b := started(t, 3)
	b.Block(0, 1)
	b.Block(1, 1)
	b.Block(2, 2)
	b.First(1)
	b.Block(0, 2)
	wantWaiting(t, b, 1, 1)
	wantWaiting(t, b, 2, 2, 0)
	wantState(t, b, 0, api.StateBlocked, 2)
	wantWake(t, b, 2, 2, 0)
	wantReady(t, b, 0, 2)
}

func TestP7_4PickIsModuloTheHandlers(t *testing.T) {
	for handlers := 1; handlers <= api.MaxHandlers; handlers++ {
		b := started(t, handlers)
		for k := -3 * handlers; k <= 3*handlers; k++ {
			wantPick(t, b, k, (k+3*handlers)%handlers, true)
		}
		for _, k := range extremes() {
			h, ok := b.Pick(k)
			if h < 0 || h >= handlers || !ok || (k%handlers-h)%handlers != 0 {
				t.Errorf("Pick(%d) of %d: %d, %v", k, handlers, h, ok)
			}
		}
	}
}

func TestP7_4PickOfOneThatIsNotReady(t *testing.T) {
	b := newBoard(t, 3)
	b.Start(1)
	b.Start(2)
	b.Block(2, 4)
	wantPick(t, b, 0, 0, false)
	wantPick(t, b, 2, 2, false)
	wantLongest(t, b, 1, 2)
	wantState(t, b, 0, api.StateIdle, 0)
	wantState(t, b, 2, api.StateBlocked, 4)
	wantWaiting(t, b, 4, 2)
	wantReady(t, b, 1)
	wantPick(t, b, 1, 1, true)
	wantLongest(t, b, 1, 0)
}

func TestP7_4LongestOfSeveral(t *testing.T) {
	b := started(t, 4)
	wantLongest(t, b, 0, 0)
	b.Pick(0)
	wantLongest(t, b, 1, 1)
	b.Pick(2)
	wantLongest(t, b, 1, 2)
	b.Pick(1)
	wantLongest(t, b, 3, 3)
	b.Pick(3)
	wantLongest(t, b, 0, 3)
	b.Finish(0)
	wantLongest(t, b, 2, 2)
	for _, h := range []int{1, 2, 3} {
		b.Block(h, h)
	}
	wantLongest(t, b, -1, 0)
}

// One that stops being ready and becomes ready again has waited for nothing.
func TestP7_4CountsBeginAnew(t *testing.T) {
	again := []func(b *sched.Board){
		func(b *sched.Board) { b.Block(0, 1); b.Wake(1) },
		func(b *sched.Board) { b.Block(0, 1); b.First(1) },
		func(b *sched.Board) { b.Finish(0); b.Start(0) },
		func(b *sched.Board) { b.Block(0, 1); b.Pick(1); b.Pick(1); b.Wake(1); b.Pick(0) },
		func(b *sched.Board) { b.Finish(0); b.Pick(1); b.Pick(1); b.Start(0) },
		func(b *sched.Board) { b.Finish(0); b.Pick(0); b.Pick(1); b.Start(0) },
	}
	for i, do := range again {
		b := started(t, 2)
		for range 5 {
			b.Pick(1)
		}
		wantLongest(t, b, 0, 5)
		do(b)
		b.Finish(1)
		wantLongest(t, b, 0, 0)
		b.Pick(1)
		if h, n := b.Longest(); h != 0 || n != 1 {
			t.Errorf("%d: Longest: %d, %d", i, h, n)
		}
	}
}

func TestP7_5NilBoard(t *testing.T) {
	var b *sched.Board
	for _, n := range append(extremes(), 0, 1) {
		wantErrno(t, "Start", b.Start(n), api.OK)
		wantErrno(t, "Block", b.Block(n, n), api.OK)
		wantErrno(t, "Finish", b.Finish(n), api.OK)
		wantWake(t, b, n)
		wantWaiting(t, b, n)
		wantFirst(t, b, n, -1, false)
		wantPick(t, b, n, -1, false)
		wantState(t, b, n, -1, 0)
	}
	wantReady(t, b)
	wantLongest(t, b, -1, 0)
}

func TestR1BoardThatNewDidNotMake(t *testing.T) {
	b := new(sched.Board)
	for _, n := range append(extremes(), 0, 1) {
		wantErrno(t, "Start", b.Start(n), api.ErrHandler)
		wantErrno(t, "Block", b.Block(n, n), api.ErrHandler)
		wantErrno(t, "Finish", b.Finish(n), api.ErrHandler)
		wantWake(t, b, n)
		wantWaiting(t, b, n)
		wantFirst(t, b, n, -1, false)
		wantPick(t, b, n, -1, false)
		wantState(t, b, n, -1, 0)
	}
	wantReady(t, b)
	wantLongest(t, b, -1, 0)
}

// plain is a board as the document tells it, each word by itself.
type plain struct {
	state, on, blocked, count []int
	moment                    int
}

func newPlain(handlers int) *plain {
	return &plain{make([]int, handlers), make([]int, handlers), make([]int, handlers), make([]int, handlers), 0}
}

func (p *plain) turn(h, state, on int) {
	p.moment++
	p.state[h], p.on[h], p.blocked[h], p.count[h] = state, on, p.moment, 0
}

// change turns a handler that is in the state from, and answers the error of what it was: of an idle one, a ready one, a blocked one.
func (p *plain) change(h, from, to, on int, errnos ...api.Errno) api.Errno {
	if h < 0 || h >= len(p.state) {
		return api.ErrHandler
	}
	was := p.state[h]
	if was == from {
		p.turn(h, to, on)
	}
	return errnos[was]
}

func (p *plain) waiting(on int) []int {
	var l []int
	for h := range p.state {
		if p.state[h] == api.StateBlocked && p.on[h] == on {
			l = append(l, h)
		}
	}
	slices.SortFunc(l, func(a, b int) int { return cmp.Compare(p.blocked[a], p.blocked[b]) })
	return l
}

func (p *plain) wake(l []int) {
	for _, h := range l {
		p.turn(h, api.StateReady, 0)
	}
}

func (p *plain) ready() []int {
	var l []int
	for h, s := range p.state {
		if s == api.StateReady {
			l = append(l, h)
		}
	}
	return l
}

func (p *plain) pick(k int) (int, bool) {
	n := len(p.state)
	h := k - int(math.Floor(float64(k)/float64(n)))*n
	for i := range p.count {
		if p.state[i] == api.StateReady {
			p.count[i]++
		}
	}
	p.count[h] = 0
	return h, p.state[h] == api.StateReady
}

func (p *plain) longest() (int, int) {
	best, most := -1, 0
	for h := len(p.state) - 1; h >= 0; h-- {
		if p.state[h] == api.StateReady && p.count[h] >= most {
			best, most = h, p.count[h]
		}
	}
	return best, most
}

func randomBoardStep(t *testing.T, r *rand.Rand, b *sched.Board, p *plain) {
	t.Helper()
	h, on := r.Intn(len(p.state)+2)-1, r.Intn(4)-1
	switch r.Intn(9) {
	case 0, 1:
		e := p.change(h, api.StateIdle, api.StateReady, 0, api.OK, api.ErrBusy, api.ErrBusy)
		wantErrno(t, "Start", b.Start(h), e)
	case 2, 3:
		e := p.change(h, api.StateReady, api.StateBlocked, on, api.ErrIdle, api.OK, api.ErrBlocked)
		wantErrno(t, "Block", b.Block(h, on), e)
	case 4:
		e := p.change(h, api.StateReady, api.StateIdle, 0, api.ErrIdle, api.OK, api.ErrBlocked)
		wantErrno(t, "Finish", b.Finish(h), e)
	case 5:
		l := p.waiting(on)
		p.wake(l)
		wantWake(t, b, on, l...)
	case 6:
		if l := p.waiting(on); len(l) > 0 {
			p.wake(l[:1])
			wantFirst(t, b, on, l[0], true)
		} else {
			wantFirst(t, b, on, -1, false)
		}
	default:
		k := r.Intn(100) - 50
		h, ok := p.pick(k)
		wantPick(t, b, k, h, ok)
	}
}

func TestP7_4BoardsStepByStep(t *testing.T) {
	r := rand.New(rand.NewSource(7))
	for range 200 {
		handlers := 1 + r.Intn(api.MaxHandlers)
		b, p := newBoard(t, handlers), newPlain(handlers)
		for range 300 {
			randomBoardStep(t, r, b, p)
			wantReady(t, b, p.ready()...)
			h, n := p.longest()
			wantLongest(t, b, h, n)
			for on := -1; on < 3; on++ {
				wantWaiting(t, b, on, p.waiting(on)...)
			}
			for h := range handlers {
				wantState(t, b, h, p.state[h], p.on[h])
			}
			if t.Failed() {
				return
			}
		}
	}
}
