package till_test

import (
	"slices"
	"strings"
	"testing"

	"larder/api"
	"larder/codec"
	"larder/mend"
	"larder/till"
	"larder/wal"
)

// wantNone asks that Open refuses.
func wantNone(t *testing.T, name string, image []byte, c api.Config, e api.Errno) {
	t.Helper()
	u, got := till.Open(image, c)
	if u != nil || got != e {
		t.Errorf("%s: %v, %d, want nil, %d", name, u != nil, got, e)
	}
}

// manyCodes answers so many codes, in order.
func manyCodes(n int) []string {
	var l []string
	for i := range n {
		l = append(l, string([]byte{byte(33 + i/94), byte(33 + i%94)}))
	}
	return l
}

// wrongConfigs are those that mend.Check refuses, with its error.
func wrongConfigs() map[string]struct {
	change func(*api.Config)
	e      api.Errno
} {
	type row = struct {
		change func(*api.Config)
		e      api.Errno
	}
	return map[string]row{
		"no stripes":        {func(c *api.Config) { c.Stripes = 0 }, api.ErrArg},
		"too many stripes":  {func(c *api.Config) { c.Stripes = 65 }, api.ErrArg},
		"no handlers":       {func(c *api.Config) { c.Handlers = 0 }, api.ErrArg},
		"too many handlers": {func(c *api.Config) { c.Handlers = 17 }, api.ErrArg},
		"a slot of 1":       {func(c *api.Config) { c.Slot = 1 }, api.ErrSlot},
		"a slot of 1025":    {func(c *api.Config) { c.Slot = 1025 }, api.ErrSlot},
		"no log":            {func(c *api.Config) { c.Sectors = 16 }, api.ErrSlot},
		"too many sectors":  {func(c *api.Config) { c.Sectors = 4097 }, api.ErrSlot},
		"the least sectors": {func(c *api.Config) { c.Sectors = least }, api.ErrSlot},
		"the greatest slot": {func(c *api.Config) { c.Slot = greatest }, api.ErrSlot},
		"no codes":          {func(c *api.Config) { c.Codes = nil }, api.ErrArg},
		"too many codes":    {func(c *api.Config) { c.Codes = manyCodes(513) }, api.ErrLong},
		"no code":           {func(c *api.Config) { c.Codes = []string{"a", "b b"} }, api.ErrCode},
		"no order":          {func(c *api.Config) { c.Codes = []string{"b", "a"} }, api.ErrSorted},
		"one twice":         {func(c *api.Config) { c.Codes = []string{"a", "a"} }, api.ErrSorted},
		"too heavy":         {func(c *api.Config) { c.Codes = manyCodes(100) }, api.ErrFull},
	}
}

// TestP15_1_Check: each error of mend.Check; it comes ahead of what is wrong with the image.
func TestP15_1_Check(t *testing.T) {
	for name, x := range wrongConfigs() {
		c := plain()
		image := formatted(t, c)
		x.change(&c)
		want(t, name+": mend.Check", mend.Check(c), x.e)
		wantNone(t, name, image, c, x.e)
		wantNone(t, name+", and no image", nil, c, x.e)
		wantNone(t, name+", and an image that is too long", make([]byte, 600000), c, x.e)
	}
	c := plain()
	c.Stripes, c.Slot, c.Codes = 0, 0, nil
	wantNone(t, "all at once", make([]byte, 600000), c, api.ErrArg)
	c.Stripes = 4
	wantNone(t, "sectors and codes", make([]byte, 600000), c, api.ErrSlot)
	wantNone(t, "the zero Config", nil, api.Config{}, api.ErrArg)
}

// TestP15_1_Image: disk.New's error, which comes ahead of mend.Recover's; and an image that is shorter than the disk.
func TestP15_1_Image(t *testing.T) {
	c := plain()
	image := formatted(t, c)
	wantNone(t, "a byte too many", append(slices.Clone(image), 0), c, api.ErrLong)
	wantNone(t, "a byte too many of nothing", make([]byte, 40*128+1), c, api.ErrLong)
	u := opened(t, image[:10*128], c)
	wantState(t, u, empty(c))
	want(t, "bytes of the image", len(u.Image()), 40*128)
}

// withRecord answers an image whose log has a record that no store has written.
func withRecord(t *testing.T, c api.Config, r api.Request) []byte {
	t.Helper()
	d := diskOf(t, formatted(t, c), c)
	l, e := wal.Open(d, 2*c.Slot, c.Sectors-2*c.Slot, 1, 0, 1)
	if e != api.OK {
		t.Fatal(e)
	}
	b, _ := codec.PutRequest(r)
	l.Reserve(len(b))
	lsn, _ := l.Number()
	l.Append(0, lsn, b)
	l.Collect()
	for last := false; !last; {
		last, _ = l.Write()
	}
	l.Barrier()
	return d.Image()
}

// TestP15_1_Recover: each error that mend.Recover can have here.
func TestP15_1_Recover(t *testing.T) {
	c := plain()
	wantNone(t, "no image", nil, c, api.ErrNoState)
	wantNone(t, "zeros", make([]byte, 40*128), c, api.ErrNoState)
	image := formatted(t, c)
	image[9*128] ^= 1
	wantNone(t, "a body that is rotten", image, c, api.ErrRot)
	image = formatted(t, c)
	image[8*128] ^= 1
	wantNone(t, "a header that is rotten", image, c, api.ErrNoState)
	wantNone(t, "a record of what can't be", withRecord(t, c, writeoff("1", line("a", 1))), c, api.ErrRot)
	wantState(t, opened(t, withRecord(t, c, restock("1", line("a", 1))), c), behind(t, empty(c), restock("1", line("a", 1))))
	other := c
	other.Codes = []string{"a", "c"}
	wantNone(t, "another store's image", formatted(t, c), other, api.ErrRot)

	last := imageOf(t, c, api.MaxLife-1, empty(c))
	wantNone(t, "the last life", last, c, api.ErrEnd)
	slot := (api.MaxLife - 1) % 2 * c.Slot
	last[(slot+1)*128] ^= 1
	wantNone(t, "the last life, and rotten", last, c, api.ErrRot)
	want(t, "the life ahead of the last", opened(t, imageOf(t, c, api.MaxLife-2, empty(c)), c).View().Life, api.MaxLife-1)
}

// wantNew asks that a till is one that was just opened, with a state.
func wantNew(t *testing.T, name string, u *till.Till, c api.Config, s api.State, life int) {
	t.Helper()
	if got := u.Start(); !sameState(got, s) {
		t.Errorf("%s: Start: %s, want %s", name, show(got), show(s))
	}
	wantState(t, u, s)
	if x := u.Story(); !sameStory(x, api.Story{State: s, Lives: 1}) {
		t.Errorf("%s: %s", name, storyWords(x))
	}
	v := u.View()
	if v.Life != life || v.Given != s.Lsn || v.Noted != s.Lsn || v.Durable != s.Lsn || v.Flusher != -1 || v.Free != c.Sectors-2*c.Slot {
		t.Errorf("%s: %+v, want life %d, number %d", name, v, life, s.Lsn)
	}
	want(t, name+": ready", len(u.Ready()), 0)
	for h := range c.Handlers {
		phase, i := u.Phase(h)
		want(t, name+": phase", phase, api.PhaseIdle)
		want(t, name+": its number", i, 0)
		if x, told := u.Reply(h); told || !sameReply(x, api.Reply{}) {
			t.Errorf("%s: a reply of %d: %s", name, h, show(x))
		}
	}
}

// TestP15_1_Formatted: a new store begins its second life: Recover has made a checkpoint of its own.
func TestP15_1_Formatted(t *testing.T) {
	for _, c := range []api.Config{plain(), wide(), brief(), {Codes: []string{strings.Repeat("x", 40)}, Stripes: 1, Handlers: 1, Sectors: 5, Slot: 2}, {Codes: manyCodes(512), Stripes: 64, Handlers: 16, Sectors: 4096, Slot: 1024}} {
		wantNew(t, "formatted", fresh(t, c), c, empty(c), 2)
	}
}

// TestP15_1_LeftByAStore: an image that a store has left when nobody was at work, and one in the midst of a request.
func TestP15_1_LeftByAStore(t *testing.T) {
	c := plain()
	u := fresh(t, c)
	list := []api.Request{restock("1", line("a", 5), line("b", 2)), hold("h", 10, line("a", 2)), tick("t", 4), hold("i", 10, line("b", 1))}
	for _, r := range list {
		done(t, u, 0, r)
	}
	s := behind(t, empty(c), list...)
	wantNew(t, "left by a store", opened(t, u.Image(), c), c, s, 3)
	done(t, u, 0, save("s"))
	wantNew(t, "behind a Save", opened(t, u.Image(), c), c, s, 4)
	ask(t, u, 0, commit("c", "h"))
	to(t, u, 0, api.PhaseWrite)
	wantNew(t, "ahead of a write", opened(t, u.Image(), c), c, s, 4)
	to(t, u, 0, api.PhaseBarrier)
	wantNew(t, "with a write that is loose", opened(t, u.Image(), c), c, behind(t, s, commit("c", "h")), 4)

	// Start stays what it was, whatever is done; another till of the same image goes its own way.
	v := opened(t, u.Image(), c)
	done(t, v, 1, release("x", "i"))
	crash(t, v, nothing())
	if got := v.Start(); !sameState(got, behind(t, s, commit("c", "h"))) {
		t.Errorf("Start: %s", show(got))
	}
	if got := u.Start(); !sameState(got, empty(c)) {
		t.Errorf("Start: %s", show(got))
	}
}

// TestP15_1_LeftByACrash: what a power failure leaves, with each choice for its loose writes.
func TestP15_1_LeftByACrash(t *testing.T) {
	c := plain()
	w := twinOf(t, formatted(t, c), c, nil)
	w.ask(0, restock("1", line("a", 5)))
	w.run(100)
	w.ask(0, hold("h", 10, line("a", 2)))
	for phase := 0; phase != api.PhaseBarrier; phase, _ = w.m.Phase(0) {
		w.pick(0)
	}
	before, after := behind(t, empty(c), restock("1", line("a", 5))), behind(t, empty(c), restock("1", line("a", 5)), hold("h", 10, line("a", 2)))
	seen := 0
	for x := range w.d.Choices(w.d.Count()) {
		image, _ := w.d.At(w.d.Count(), x)
		s := before
		if len(x.Keep) == 1 {
			s = after
		}
		wantNew(t, "left by a crash", opened(t, image, c), c, s, 3)
		seen++
	}
	want(t, "choices", seen, 3)
}

// TestP15_1_LeftByARecovery: the power failed in the midst of a recovery.
func TestP15_1_LeftByARecovery(t *testing.T) {
	c := plain()
	u := fresh(t, c)
	done(t, u, 0, restock("1", line("a", 5)))
	d := diskOf(t, u.Image(), c)
	mend.Recover(d, c)
	s := behind(t, empty(c), restock("1", line("a", 5)))
	for n := range d.Count() + 1 {
		for x := range d.Choices(n) {
			image, _ := d.At(n, x)
			v := opened(t, image, c)
			wantState(t, v, s)
			if life := v.View().Life; life != 3 && life != 4 {
				t.Errorf("life %d", life)
			}
		}
	}
}
