package desk_test

import (
	"fmt"
	"math/rand"
	"strings"
	"testing"

	"larder/api"
	"larder/stock"
)

// shops answers stores for runs.
func shops() []api.Config {
	few := []string{goodA, goodB}
	mixed := []string{trade(3), trade(5), trade(8), "bolt", "nut"}
	return []api.Config{
		{Codes: few, Stripes: 1, Handlers: 1, Sectors: 300, Slot: 100},
		{Codes: few, Stripes: 4, Handlers: 2, Sectors: 200, Slot: 60},
		{Codes: mixed, Stripes: 16, Handlers: 3, Sectors: 400, Slot: 120},
		{Codes: mixed, Stripes: 64, Handlers: 6, Sectors: 400, Slot: 120},
		{Codes: few, Stripes: 3, Handlers: 16, Sectors: 300, Slot: 80},
		{Codes: mixed, Stripes: 8, Handlers: 4, Sectors: 70, Slot: 30},
		{Codes: few, Stripes: 4, Handlers: 3, Sectors: 30, Slot: 10},
	}
}

// TestP18_2_ManyRuns: scripts, interchanges and sheets in any order, some with faults, with power failures: Do, Take, Fill and Advice answer what the twin does (P18.2 to P18.6), and both look alike behind each; in the end check tells OK (P18.8).
func TestP18_2_ManyRuns(t *testing.T) {
	tally := map[string]int{}
	for n, c := range shops() {
		for i := range 24 {
			p := pairOf(t, c, tally)
			r := rand.New(rand.NewSource(int64(18000 + 100*n + i)))
			p.play(&writer{r: r, codes: c.Codes, handlers: c.Handlers, calm: r.Intn(2) == 0}, 40)
			if p.broken {
				t.Fatalf("shop %d, run %d", n, i)
			}
		}
	}
	t.Log(tally)
	least := map[string]int{
		"taken": 300, "filled": 300, "advised": 100, "an order held": 200, "an order not held": 200, "an order that is none": 50,
		"an order of no code of the store's": 20, "an advice that is refused": 5, "rows of one request": 200,
		"a crash while requests wait": 100, "several lost": 50, "a command's reply told to nobody": 200,
		"reply OK": 2000, "reply E9": 50, "reply E5": 50, "reply E70": 20, "reply E120": 20, "reply E129": 20, "reply E141": 50, "reply E142": 50,
	}
	for _, word := range []string{"run", "pick", "mix", "goods", "holds", "check", "crash", "restock", "writeoff", "hold", "commit", "release", "extend", "read", "tick", "save"} {
		least["command "+word] = 40
	}
	for what, n := range least {
		if tally[what] < n {
			t.Errorf("%s: %d times alone", what, tally[what])
		}
	}
}

func (p *pair) play(d *writer, steps int) {
	p.t.Helper()
	for range steps {
		if p.broken {
			return
		}
		switch n := d.r.Intn(20); {
		case n < 10:
			p.do(d.script(12))
		case n < 12:
			p.do(d.spoilt())
		case n < 15:
			p.take(d.interchange())
		case n < 18:
			p.fill(d.sheet(10))
		default:
			p.advice(pick(d.r, "S-1", "S-2", "", "s", strings.Repeat("9", 22), strings.Repeat("9", 23)))
		}
	}
	if text := p.do("run\ncheck\n"); !strings.Contains(text, fmt.Sprintf("%d check OK", p.w.number-1)) {
		p.fail("P18.8: %s", text)
	}
	if s := p.d.State(); !stock.Sound(s) {
		p.fail("not sound: %s", show(s))
	}
}
