package desk

import (
	"strings"
	"testing"

	"larder/api"
	"larder/edi"
)

func small() api.Config {
	return api.Config{Codes: []string{"12345670", "96385074"}, Stripes: 4, Handlers: 2, Sectors: 60, Slot: 10}
}

// TestP18_4_LastControl: behind the number 999999999 an interchange has the number 1. (No test can send so many.)
func TestP18_4_LastControl(t *testing.T) {
	d, e := Open(small())
	if e != api.OK {
		t.Fatal(e)
	}
	set, _ := edi.BuildOrder(api.Order{Number: "N", Date: "20260101", Lines: []api.OrderLine{{Qty: 1, Code: "12345670"}}}, "0001")
	group := api.Group{Kind: "PO", From: "A", To: "B", Date: "20260101", Time: "1200", Control: 1, Sets: []api.Set{set}}
	text, err := edi.Print(api.Interchange{From: "A", To: "B", Date: "260101", Time: "1200", Control: 9, Groups: []api.Group{group}})
	if err != nil {
		t.Fatal(err)
	}
	calls := []func() (string, error){func() (string, error) { return d.Take(text) }, func() (string, error) { return d.Advice("S") }}
	for _, call := range calls {
		d.control = 999999998
		for _, control := range []int{999999998, 999999999, 1, 2} {
			answer, err := call()
			if err != nil {
				t.Fatal(err)
			}
			for line := range strings.Lines(answer) {
				if i, err := edi.Parse(line); err != nil || i.Control != control || i.Groups[0].Control != control {
					t.Errorf("%+v, %v, want the control %d", i, err, control)
				}
			}
		}
	}
}

// TestP18_3_Bad: a story that no ledger could have given is BAD. (No store has one.)
func TestP18_3_Bad(t *testing.T) {
	d, e := Open(small())
	if e != api.OK {
		t.Fatal(e)
	}
	if _, err := d.Do("@1 restock r 12345670 5\nrun\n@1 read q 12345670\nrun\n"); err != nil {
		t.Fatal(err)
	}
	if got := verdict(d.Story(), d.till.Start()); got != "OK" {
		t.Errorf("%s", got)
	}
	s := d.Story()
	s.Ops[1].Reply.Levels[0].OnHand = 6
	if got := verdict(s, d.till.Start()); got != "BAD" {
		t.Errorf("%s", got)
	}
	other := d.till.Start()
	other.Levels[0].OnHand = 1
	if got := verdict(d.Story(), other); got != "BAD" {
		t.Errorf("from another state: %s", got)
	}
	if got := verdict(d.Story(), api.State{}); got != "BAD" {
		t.Errorf("from no state: %s", got)
	}
}

// TestLanguage8: what has been answered is not kept.
func TestLanguage8(t *testing.T) {
	d, e := Open(small())
	if e != api.OK {
		t.Fatal(e)
	}
	for range 20 {
		d.Do("@1 read q 12345670\n@1 read q 96385074\n@2 read r 12345670\nrun\n")
		d.Fill("id,what,code,qty,hold,ttl,now\r\na,save,,,,,\r\nb,save,,,,,\r\nc,save,,,,,\r\n")
	}
	for h, q := range d.queues {
		if len(q.waiting) > 0 || q.work.request.Id != "" || q.work.request.Lines != nil {
			t.Errorf("queue %d: %+v", h, q)
		}
	}
}
