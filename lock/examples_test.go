package lock_test

import (
	"slices"
	"testing"

	"larder/api"
	"larder/lock"
)

func TestExample1(t *testing.T) {
	if lock.Stripe("a", 1) != 0 || lock.Stripe("a", 0) != -1 || lock.Stripe("a", 65) != -1 {
		t.Error("Stripe")
	}
	if len(lock.Set(nil, 64)) != 0 || len(lock.Set([]string{"a", "a"}, 64)) != 1 {
		t.Error("Set")
	}
}

func TestExamples2To4(t *testing.T) {
	x := newTable(t, 2)
	wantTicket(t, x, 0, 0, api.OK)
	wantTicket(t, x, 0, 1, api.OK)
	wantTicket(t, x, 1, 0, api.OK)
	wantServed(t, x, 0, 0, true)
	wantServed(t, x, 0, 1, false)
	if x.Waiting(0) != 2 {
		t.Errorf("Waiting(0): %d", x.Waiting(0))
	}
	wantErrno(t, "Leave(0, 1)", x.Leave(0, 1), api.ErrTicket)
	wantErrno(t, "Leave(0, 0)", x.Leave(0, 0), api.OK)
	wantServed(t, x, 0, 1, true)

	wantErrno(t, "Odd(0, 1)", x.Odd(0, 1), api.OK)
	if x.Seq(0) != 1 {
		t.Errorf("Seq(0): %d", x.Seq(0))
	}
	wantErrno(t, "Odd(0, 1)", x.Odd(0, 1), api.ErrOdd)
	wantErrno(t, "Leave(0, 1)", x.Leave(0, 1), api.ErrOdd)
	wantErrno(t, "Even(0, 1)", x.Even(0, 1), api.OK)
	if x.Seq(0) != 2 {
		t.Errorf("Seq(0): %d", x.Seq(0))
	}
	wantErrno(t, "Leave(0, 1)", x.Leave(0, 1), api.OK)
	wantServed(t, x, 0, 2, false)

	wantTicket(t, x, 2, 0, api.ErrStripe)
	wantTicket(t, x, -1, 0, api.ErrStripe)
}

func TestExample5(t *testing.T) {
	moves := []api.Move{{From: 0, To: 1, Amount: 4}, {From: 1, To: 2, Amount: 1}, {From: 2, To: 2, Amount: 7}}
	levels, wrong, e := lock.Race([]int{10, 0, 0}, moves, 3)
	if !slices.Equal(levels, []int{6, 3, 1}) || wrong != 0 || e != api.OK {
		t.Errorf("%v, %d, %d", levels, wrong, e)
	}
}
