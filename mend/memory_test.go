package mend_test

import (
	"bytes"
	"slices"
	"testing"

	"larder/api"
	"larder/codec"
	"larder/mend"
)

// roomyCodes answers codes with something in their spare room.
func roomyCodes(codes ...string) []string {
	l := make([]string, 0, len(codes)+3)
	l = append(l, codes...)
	for i := range 3 {
		l[: len(codes)+i+1 : cap(l)][len(codes)+i] = "spare"
	}
	return l
}

// wantSpare says whether the spare room of codes is as it was.
func wantSpare(t *testing.T, name string, codes []string, want ...string) {
	t.Helper()
	if whole := codes[:cap(codes)]; !slices.Equal(whole, append(want, "spare", "spare", "spare")) {
		t.Errorf("%s has changed the codes: %q", name, whole)
	}
}

// spoil writes into all of a state, and behind each of its lists.
func spoil(s api.State) {
	for i := range s.Levels {
		s.Levels[i] = api.Level{Code: "?", OnHand: -1, Held: -1}
	}
	for i := range s.Holds {
		spoilLines(s.Holds[i].Lines)
		s.Holds[i].Id, s.Holds[i].Deadline = "?", -1
	}
	for i := range s.Done {
		spoilLines(s.Done[i].Request.Lines)
		s.Done[i] = api.Done{Request: restock("?"), At: -1}
	}
	_ = append(s.Levels, api.Level{Code: "??"})
	_ = append(s.Holds, api.Held{Id: "??"})
	_ = append(s.Done, api.Done{At: -2})
}

func spoilLines(l []api.Line) {
	for i := range l {
		l[i] = line("?", -1)
	}
	for range 40 {
		l = append(l, line("??", -2))
	}
}

// wantApart says whether the lists of a state share no memory with one another: what is laid behind one shows in no other.
func wantApart(t *testing.T, name string, s api.State) {
	t.Helper()
	before := copyState(s)
	for i := range s.Holds {
		_ = append(s.Holds[i].Lines, line("?", -1), line("?", -2))
	}
	for i := range s.Done {
		_ = append(s.Done[i].Request.Lines, line("?", -1), line("?", -2))
	}
	_ = append(s.Levels, api.Level{Code: "?"})
	_ = append(s.Holds, api.Held{Id: "?"})
	_ = append(s.Done, api.Done{At: -1})
	if !sameState(s, before) {
		t.Errorf("%s: lists that share memory: %s, want %s", name, show(s), show(before))
	}
	// Each element by itself.
	for i := range s.Holds {
		u := copyState(s)
		spoilLines(s.Holds[i].Lines)
		copy(s.Holds[i].Lines, u.Holds[i].Lines)
		if !sameState(s, u) {
			t.Errorf("%s: the lines of hold %d are those of something else", name, i)
		}
	}
}

// R4: the configuration is not changed and not kept.
func TestR4TheConfiguration(t *testing.T) {
	c := roomy()
	c.Codes = roomyCodes("a", "b", "c")
	s := busy(t, c)
	mend.Room(c)
	mend.Check(c)
	image, _ := mend.Format(c)
	body, head, _ := mend.Layout(c, 2, s)
	d := newDisk(t, image, c.Sectors)
	state, _, _ := mend.Newest(d, c)
	back, _, _, _ := mend.Recover(d, c)
	wantSpare(t, "a call", c.Codes, "a", "b", "c")
	if !sameConfig(c, api.Config{Codes: []string{"a", "b", "c"}, Stripes: 4, Handlers: 2, Sectors: 400, Slot: 100}) {
		t.Errorf("the configuration has changed: %s", show(c))
	}
	for i := range c.Codes {
		c.Codes[i] = "?"
	}
	if !sameState(state, empty(roomy())) || !sameState(back, empty(roomy())) {
		t.Errorf("the states hang on the configuration's codes: %s, %s", show(state), show(back))
	}
	b, h, _ := mend.Layout(roomy(), 2, s)
	wantSameWrites(t, append(body, head), append(b, h))
	wantNewest(t, "later", d, roomy(), empty(roomy()), 2)
}

func wantSameWrites(t *testing.T, l, m []api.Write) {
	t.Helper()
	same := func(v, w api.Write) bool { return v.Sector == w.Sector && bytes.Equal(v.Bytes, w.Bytes) }
	if !slices.EqualFunc(l, m, same) {
		t.Errorf("%v, want %v", l, m)
	}
}

func copyWrites(l []api.Write) []api.Write {
	var m []api.Write
	for _, w := range l {
		m = append(m, api.Write{Sector: w.Sector, Bytes: bytes.Clone(w.Bytes)})
	}
	return m
}

// R4: images are new memory.
func TestR4Images(t *testing.T) {
	one, _ := mend.Format(plain())
	two, _ := mend.Format(plain())
	first := bytes.Clone(one)
	for i := range one {
		one[i] = 0xee
	}
	_ = append(one, 1, 2, 3)
	three, _ := mend.Format(plain())
	if !bytes.Equal(two, first) || !bytes.Equal(three, first) {
		t.Errorf("images share memory")
	}
}

// R4: writes share no memory with one another, with the state, or with another call's.
func TestR4Writes(t *testing.T) {
	c, s := sized(t, 100, 1281)
	s.Levels = slices.Grow(s.Levels, 4)
	spare := s.Levels[:cap(s.Levels)]
	for i := len(s.Levels); i < len(spare); i++ {
		spare[i] = api.Level{Code: "spare", OnHand: i}
	}
	before, behindIt := copyState(s), slices.Clone(spare)
	body, head, _ := mend.Layout(c, 2, s)
	if !sameState(s, before) || !slices.Equal(spare, behindIt) {
		t.Errorf("Layout has changed the state")
	}
	whole := append(copyWrites(body), copyWrites([]api.Write{head})...)
	spoil(s)
	wantSameWrites(t, append(slices.Clone(body), head), whole)
	all := append(slices.Clone(body), head)
	for i := range all {
		for j := range all[i].Bytes {
			all[i].Bytes[j] = 0xee
		}
		long := all[i].Bytes
		for range 200 {
			long = append(long, 0xdd)
		}
		for j := range all {
			if j > i && !bytes.Equal(all[j].Bytes, whole[j].Bytes) {
				t.Fatalf("write %d shows in write %d", i, j)
			}
		}
	}
	_ = append(body, api.Write{Sector: 99})
	b, h, _ := mend.Layout(c, 2, before)
	wantSameWrites(t, append(b, h), whole)
}

// R4: the state that Newest answers is new memory, and the disk keeps none of it.
func TestR4Newest(t *testing.T) {
	c := roomy()
	d := newDisk(t, imageOf(t, c, 3, busy(t, c)), c.Sectors)
	s, _, _ := mend.Newest(d, c)
	u, _, _ := mend.Newest(d, c)
	wantApart(t, "Newest", s)
	spoil(s)
	if !sameState(u, busy(t, c)) {
		t.Errorf("two states share memory: %s", show(u))
	}
	wantNewest(t, "again", d, c, busy(t, c), 3)
	want(t, "operations", d.Count(), 0)
}

// R4: Replay changes neither the state nor the records, and keeps none of them.
func TestR4Replay(t *testing.T) {
	c := roomy()
	for _, last := range [][]byte{record(t, tick("n3", 5)), []byte("no request")} {
		s := busy(t, c)
		s.Holds = slices.Grow(s.Holds, 4)
		spare := s.Holds[:cap(s.Holds)]
		spare[len(s.Holds)] = api.Held{Id: "spare"}
		list := append(records(t, restock("n1", line("c", 3)), hold("n2", 9, line("c", 1))), last)
		for i := range list {
			list[i] = append(list[i], 0xaa, 0xbb)[:len(list[i])]
		}
		before, copies := copyState(s), make([][]byte, 0)
		for _, p := range list {
			copies = append(copies, bytes.Clone(p[:len(p)+2]))
		}
		got, n, e := mend.Replay(s, list)
		to, m, f := redone(before, list)
		if !sameState(got, to) || n != m || e != f {
			t.Fatalf("Replay: %s, %d, %d", show(got), n, e)
		}
		if !sameState(s, before) || spare[len(s.Holds)].Id != "spare" {
			t.Errorf("Replay has changed the state")
		}
		for i, p := range list {
			if !bytes.Equal(p[:len(p)+2], copies[i]) {
				t.Errorf("Replay has changed record %d", i)
			}
			clear(p[:len(p)+2])
		}
		spoil(s)
		if !sameState(got, to) {
			t.Errorf("what Replay answers hangs on what it was given")
		}
		wantApart(t, "Replay", got)
		s = copyState(before)
		got, _, _ = mend.Replay(s, nil)
		spoil(got)
		if !sameState(s, before) {
			t.Errorf("what Replay answers is what it was given")
		}
	}
}

// R4: the state that Recover answers is new memory, and the disk keeps none of it.
func TestR4Recover(t *testing.T) {
	c := roomy()
	d := newDisk(t, imageOf(t, c, 3, busy(t, c)), c.Sectors)
	logged(t, d, c, 3, busy(t, c).Lsn, records(t, restock("n", line("c", 3)), hold("m", 3, line("c", 1)))...)
	to := behind(t, busy(t, c), restock("n", line("c", 3)), hold("m", 3, line("c", 1)))
	got, _, _, _ := mend.Recover(d, c)
	wantApart(t, "Recover", got)
	image := d.Image()
	spoil(got)
	if !bytes.Equal(d.Image(), image) {
		t.Errorf("the disk has changed")
	}
	wantNewest(t, "later", d, c, to, 4)
	wantRecover(t, "later", d, c, to, 5, 0)
}

// R3: nil lists and empty ones are the same.
func TestR3NilAndEmpty(t *testing.T) {
	c := plain()
	s := empty(c)
	u := copyState(s)
	u.Holds, u.Done = []api.Held{}, []api.Done{}
	b, h, e := mend.Layout(c, 2, s)
	v, w, f := mend.Layout(c, 2, u)
	want(t, "errors", e, f)
	wantSameWrites(t, append(b, h), append(v, w))
	wantReplay(t, "empty lists", u, [][]byte{}, s, 0, api.OK)
	r := tick("t", 3)
	r.Lines = []api.Line{}
	u.Lsn, u.Now, u.Done = 1, 3, []api.Done{{Request: r, At: 3}}
	wantReplay(t, "an empty list of lines", s, records(t, r), u, 1, api.OK)
	c.Codes = []string{}
	want(t, "no codes", mend.Check(c), api.ErrArg)
}

// R5: a call asked again answers the same, whatever was asked in between, of whatever disk.
func TestR5Again(t *testing.T) {
	c := roomy()
	s := busy(t, c)
	d := newDisk(t, imageOf(t, c, 3, s), c.Sectors)
	other := formatted(t, plain())
	for range 20 {
		wantNewest(t, "again", d, c, s, 3)
		wantNoNewest(t, "in between", newDisk(t, nil, 16), plain(), api.ErrNoState)
		mend.Recover(other, plain())
		wantReplay(t, "again", s, records(t, tick("n", 5)), behind(t, s, tick("n", 5)), 1, api.OK)
		wantReplay(t, "in between", s, [][]byte{{1}}, s, 0, api.ErrRot)
		wantNoLayout(t, "in between", c, 0, s, api.ErrArg)
		wantLaidOut(t, "again", c, 7, s)
	}
	_, epoch, _ := mend.Newest(other, plain())
	want(t, "the other disk's epoch", epoch, 21)
	// Two disks of one image answer alike.
	one, two := newDisk(t, d.Image(), c.Sectors), newDisk(t, d.Image(), c.Sectors)
	wantRecover(t, "one", one, c, s, 4, 0)
	wantRecover(t, "two", two, c, s, 4, 0)
	if !bytes.Equal(one.Image(), two.Image()) {
		t.Errorf("two disks differ")
	}
}

// R1: wrong things of all sorts are answered, and no call panics.
func TestR1NoPanic(t *testing.T) {
	for _, c := range []api.Config{{}, {Slot: least, Sectors: least}, {Slot: greatest, Sectors: greatest, Stripes: 1, Handlers: 1}, {Stripes: 1, Handlers: 1, Slot: 2, Sectors: 5, Codes: []string{times('z', 5000)}}} {
		mend.Room(c)
		mend.Check(c)
		mend.Format(c)
		mend.Layout(c, least, api.State{Room: least, Lsn: least, Now: least})
		mend.Layout(c, greatest, api.State{Levels: make([]api.Level, 3), Holds: make([]api.Held, 3), Done: make([]api.Done, 3)})
		mend.Newest(nil, c)
		mend.Recover(nil, c)
		mend.Recover(newDisk(t, nil, 5), c)
	}
	mend.Replay(api.State{}, [][]byte{nil, {}})
	great := make([]byte, 100000)
	wantReplay(t, "a great record", empty(plain()), [][]byte{great}, empty(plain()), 0, api.ErrRot)
	b, _ := codec.PutState(empty(plain()))
	wantReplay(t, "a state", empty(plain()), [][]byte{b}, empty(plain()), 0, api.ErrRot)
}
