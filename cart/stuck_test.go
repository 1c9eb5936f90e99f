package cart_test

import (
	"math/rand"
	"strings"
	"testing"

	"larder/api"
)

// great is the greatest store there is: all codes, stripes, sectors; a state that fills its room, with holds of all codes.
func great(t *testing.T) (api.Config, api.State) {
	t.Helper()
	c := api.Config{Codes: names(512, 40), Stripes: 64, Handlers: 2, Sectors: 4096, Slot: 1024}
	s := empty(c)
	for i := range s.Levels {
		s.Levels[i].OnHand = api.MaxStock / 2
	}
	for i, name := range names(55, 64) {
		var l []api.Line
		for k := range 32 {
			l = append(l, line(c.Codes[(i*32+k)%512], api.MaxStock/100))
			s.Levels[(i*32+k)%512].Held += api.MaxStock / 100
		}
		if i*32%512 > 480 {
			t.Fatal("a hold's codes are not in order")
		}
		s.Holds = append(s.Holds, api.Held{Id: name, Lines: l, Deadline: 500})
	}
	return c, s
}

// TestP14_8_EachKindAlone: within 2048 steps, of the greatest store too.
func TestP14_8_EachKindAlone(t *testing.T) {
	c, s := great(t)
	var lines, none []api.Line
	for i := range 32 {
		lines = append(lines, line(c.Codes[16*i], api.MaxStock/1000))
		none = append(none, line(c.Codes[16*i], 0))
	}
	name := func(letter string) string { return strings.Repeat(letter, 64) }
	held := s.Holds[3].Id
	for _, r := range []api.Request{
		restock(name("a"), lines...), writeoff(name("b"), lines...), hold(name("c"), 9, lines...), commit(name("d"), held), release(name("e"), held),
		extend(name("f"), held, 99), {Id: name("g"), Kind: api.KindRead, Lines: none}, tick(name("h"), 499), tick(name("h"), 500), save(name("i")), {},
		writeoff(name("j"), line(c.Codes[0], api.MaxStock)),
	} {
		m, _ := memory(t, c, s, 1)
		start(t, m, 0, r)
		got := run(t, m, 0)
		if n := len(strings.Fields(got)); n > 2048 || n < 2 {
			t.Errorf("%s: %d steps", show(r), n)
		}
		if r.Kind == api.KindTick && r.Now == 500 && !strings.Contains(got, "Apply511") {
			t.Error("not all levels turn")
		}
		if x, _ := m.Reply(0); r.Id != "" && x.Err != api.OK && x.Err != api.ErrStock {
			t.Errorf("%s: %s", show(r), show(x))
		}
	}
}

// TestP14_8_Crowd: all handlers ask for the same at once, and whoever is picked last by all the others comes to its end.
func TestP14_8_Crowd(t *testing.T) {
	c := api.Config{Codes: []string{"a", "b"}, Stripes: 2, Handlers: 16, Sectors: 200, Slot: 60}
	tally := map[string]int{}
	for seed := range int64(3) {
		r := rand.New(rand.NewSource(seed))
		w := watched(t, c, empty(c), 1, 0, tally)
		for h := range 16 {
			w.start(h, []api.Request{restock(id("x", h%4)+"y", line("a", 2)), read("r", "a", "b"), hold(id("h", h%3), 5, line("a", 1)), tick(id("t", h%3), 4), save("s")}[h%5])
		}
		// The greater its number, the less a handler is picked, as long as others can go on.
		for n := 0; !w.idle() && !w.broken; n++ {
			for h := range 16 {
				if w.asked[h] != nil && w.m.On(h) == -1 && r.Intn(4) > 0 {
					w.step(h)
					break
				}
			}
			if n > 20000 {
				t.Fatal("no end")
			}
		}
		w.ends()
	}
}
