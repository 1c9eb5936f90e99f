package cart_test

import (
	"testing"

	"larder/api"
	"larder/lock"
)

// unlike answers an id whose stripe is another than a's, of the examples' four.
func unlike() string { return in("1", (lock.Stripe("a", 4)+1)%4, 4) }

const example1 = "Begin Ticket0 Enter0 Ticket1 Enter1 Check Reserve Number Append Odd0 Apply0 Note Even0 Leave1 Leave0 Wait Collect Write Barrier Wait Reply"

func TestExample1(t *testing.T) {
	m, _ := fresh(t, plain())
	r := restock(unlike(), line("a", 5))
	start(t, m, 0, r)
	phase, i := m.Phase(0)
	want(t, "phase", phase, 1)
	want(t, "its number", i, 0)
	wantRest(t, m, 0, example1, api.Reply{Id: r.Id})
	wantPoints(t, m, api.Point{Handler: 0, Lsn: 1})
	v := m.View()
	want(t, "Given", v.Given, 1)
	want(t, "Noted", v.Noted, 1)
	want(t, "Durable", v.Durable, 1)
}

func TestExample2(t *testing.T) {
	m, _ := fresh(t, plain())
	start(t, m, 0, restock(unlike(), line("a", 5)))
	to(t, m, 0, "Note")
	step(t, m, 0)
	start(t, m, 1, read("r", "a"))
	step(t, m, 1)
	for range 3 {
		want(t, "phase", standing(m, 1), "Seq0")
		step(t, m, 1)
	}
	want(t, "phase", standing(m, 1), "Ticket0")
	step(t, m, 1)
	for standing(m, 0) != "Wait" {
		if lock.Stripe("a", 4) == lock.Set([]string{unlike(), "a"}, 4)[0] || standing(m, 0) != "Leave0" {
			wantBlocked(t, m, 1, lock.Stripe("a", 4))
		}
		step(t, m, 0)
	}
	want(t, "On behind the Leaves", m.On(1), -1)
	run(t, m, 1)
	wantReply(t, m, 1, api.Reply{Id: "r", Levels: []api.Level{{Code: "a", OnHand: 5}}})
}

func TestExample3(t *testing.T) {
	m, _ := fresh(t, plain())
	start(t, m, 0, restock(unlike(), line("a", 5)))
	to(t, m, 0, "Leave0")
	step(t, m, 0)
	want(t, "phase", standing(m, 0), "Wait")
	wantRun(t, m, 1, read("r", "a"), "Begin Seq0 Look0 Again0 "+flushed(1), api.Reply{Id: "r", Levels: []api.Level{{Code: "a", OnHand: 5}}})
	wantRest(t, m, 0, "Wait Reply", api.Reply{Id: unlike()})
}

func TestExample4(t *testing.T) {
	m, _ := fresh(t, plain())
	ask(t, m, 0, restock("1", line("a", 5)))
	start(t, m, 0, hold("h", 10, line("a", 3)))
	start(t, m, 1, hold("i", 10, line("a", 3)))
	to(t, m, 0, "Wait")
	run(t, m, 1)
	wantReply(t, m, 1, api.Reply{Id: "i", Err: api.ErrStock, Line: 0})
	want(t, "Durable", m.View().Durable, 2)
	run(t, m, 0)
	wantReply(t, m, 0, api.Reply{Id: "h", Now: 10})
}

func TestExample5(t *testing.T) {
	m, _ := fresh(t, plain())
	ask(t, m, 0, restock("1", line("a", 5)))
	start(t, m, 0, commit("c", "h"))
	step(t, m, 0)
	ask(t, m, 1, hold("h", 10, line("a", 3)))
	to(t, m, 0, "Check")
	step(t, m, 0)
	to(t, m, 0, "Leave0")
	step(t, m, 0)
	want(t, "phase", standing(m, 0), "Begin")
	run(t, m, 0)
	wantReply(t, m, 0, api.Reply{Id: "c"})

	want(t, "of a hold that is not there", ask(t, m, 0, commit("d", "h")).Err, api.ErrNoHold)
}

func TestExample6(t *testing.T) {
	m, _ := fresh(t, plain())
	want(t, "Start(2)", m.Start(2, read("r", "a")), api.ErrHandler)
	start(t, m, 0, read("r", "a"))
	want(t, "Start(0)", m.Start(0, read("r", "a")), api.ErrBusy)
	want(t, "Step(7)", m.Step(7), false)
}

func TestExample7(t *testing.T) {
	m, _ := fresh(t, plain())
	start(t, m, 0, hold("h", 0, line("a", 1)))
	wantPoints(t, m)
	step(t, m, 0)
	wantPoints(t, m, api.Point{})
	wantRest(t, m, 0, "Reply", api.Reply{Id: "h", Err: api.ErrTtl})
	wantPoints(t, m, api.Point{})
}
