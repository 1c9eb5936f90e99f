package till_test

import (
	"bytes"
	"reflect"
	"slices"
	"testing"

	"larder/api"
	"larder/till"
)

// TestP15_12_Nil: every call of a nil Till.
func TestP15_12_Nil(t *testing.T) {
	var u *till.Till
	for _, h := range []int{-1, 0, 1, greatest, least} {
		want(t, "Ask", u.Ask(h, restock("1", line("a", 5))), api.OK)
		want(t, "Pick", u.Pick(h), false)
		want(t, "Run", u.Run(h), 0)
		phase, i := u.Phase(h)
		want(t, "Phase", phase, -1)
		want(t, "its number", i, 0)
		if x, told := u.Reply(h); told || !sameReply(x, api.Reply{}) {
			t.Errorf("Reply: %s, %v", show(x), told)
		}
		want(t, "Crash", u.Crash(torn(h, h)), api.OK)
	}
	want(t, "Crash", u.Crash(api.Crash{}), api.OK)
	want(t, "Ready", len(u.Ready()), 0)
	want(t, "Image", len(u.Image()), 0)
	want(t, "View", u.View(), api.View{})
	if !sameState(u.State(), api.State{}) || !sameState(u.Start(), api.State{}) || !sameStory(u.Story(), api.Story{}) {
		t.Errorf("%s, %s, %s", show(u.State()), show(u.Start()), show(u.Story()))
	}
}

// TestR1_NotMade: a till that no Open has made has no handlers, and does not fall.
func TestR1_NotMade(t *testing.T) {
	u := &till.Till{}
	u.Ask(0, restock("1", line("a", 5)))
	want(t, "Pick", u.Pick(0), false)
	want(t, "Run", u.Run(9), 0)
	u.Crash(nothing())
	phase, _ := u.Phase(0)
	want(t, "Phase", phase, -1)
	u.Reply(0)
	u.Story()
	u.View()
	want(t, "Ready", len(u.Ready()), 0)
	want(t, "Image", len(u.Image()), 0)
	want(t, "effects", u.State().Lsn+u.Start().Lsn, 0)
}

// roomed answers a list with spare room that is filled with a value.
func roomed[T any](l []T, rest T) []T {
	wide := append(append(make([]T, 0, len(l)+3), l...), rest, rest, rest)
	return wide[:len(l)]
}

// spared says whether the spare room of such a list is as it was.
func spared[T comparable](l []T, rest T) bool {
	all := l[:len(l)+3]
	return !slices.ContainsFunc(all[len(l):], func(x T) bool { return x != rest })
}

// TestR4_HandedIn: what is handed in is not changed, nor its spare room, and may be written into behind the call.
func TestR4_HandedIn(t *testing.T) {
	c := plain()
	spare := line("spare", 9)
	list := []api.Request{
		restock("1", line("b", 4), line("a", 9), line("b", 2)), hold("h", 10, line("b", 2), line("a", 3)), read("r", "b", "a"),
		writeoff("w", line("a", 99)), restock("1", line("a", 9), line("b", 6)), save("s"), commit("c", "h"),
	}
	given := c
	given.Codes = roomed(c.Codes, "spare")
	image := roomed(formatted(t, c), 7)
	was := bytes.Clone(image)
	u := opened(t, image, given)
	if !bytes.Equal(image, was) || !spared(image, 7) || !slices.Equal(given.Codes, c.Codes) || !spared(given.Codes, "spare") {
		t.Error("Open has changed what it was given")
	}
	clear(image)
	clear(given.Codes)
	p := &pair{t: t, u: u, w: twinOf(t, formatted(t, c), c, nil)}
	for i, r := range list {
		q := copyRequest(r)
		q.Lines = roomed(q.Lines, spare)
		ask(t, u, i%2, q)
		p.w.ask(i%2, r)
		if !sameRequest(q, r) || !spared(q.Lines, spare) {
			t.Errorf("Ask has changed what it was given: %s", show(q))
		}
		if i == 0 {
			p.pick(0)
		}
		clear(q.Lines)
		p.compare("Ask, and its lines written over")
		p.run(13)
		x := kept(roomed([]int{0, 5, -1, 2}, 77)...)
		u.Crash(x)
		p.w.crash(kept(0, 5, -1, 2))
		if !slices.Equal(x.Keep, []int{0, 5, -1, 2}) || !spared(x.Keep, 77) {
			t.Errorf("Crash has changed what it was given: %v", x.Keep)
		}
		clear(x.Keep)
		p.compare("Crash, and its list written over")
		p.ask(i%2, r)
		p.run(greatest)
	}
}

// TestR4_Play: acts and their lists stay, and a story is none of them.
func TestR4_Play(t *testing.T) {
	c := plain()
	spare := line("spare", 9)
	made := func() []api.Act {
		return []api.Act{askAct(0, restock("1", line("b", 4), line("a", 9))), runAct(9), crashAct(kept(1, 0)), askAct(1, restock("1", line("b", 4), line("a", 9))), runAct(99), askAct(0, read("r", "b"))}
	}
	acts := made()
	for i := range acts {
		acts[i].Request.Lines = roomed(acts[i].Request.Lines, spare)
		acts[i].Crash.Keep = roomed(acts[i].Crash.Keep, 77)
	}
	given := c
	given.Codes = roomed(c.Codes, "spare")
	wide := roomed(acts, api.Act{Kind: 88})
	s := played(t, given, wide...)
	want(t, "the acts' spare room", wide[:len(acts)+1][len(acts)].Kind, 88)
	for i, a := range made() {
		if !sameRequest(acts[i].Request, a.Request) || !spared(acts[i].Request.Lines, spare) || !slices.Equal(acts[i].Crash.Keep, a.Crash.Keep) || !spared(acts[i].Crash.Keep, 77) {
			t.Errorf("act %d has changed: %s", i, show(acts[i]))
		}
	}
	if !slices.Equal(given.Codes, c.Codes) || !spared(given.Codes, "spare") {
		t.Error("the codes have changed")
	}
	for i := range acts {
		clear(acts[i].Request.Lines)
	}
	clear(given.Codes)
	if want := byHand(t, c, made()); !sameStory(s, want) {
		t.Errorf("a story that the acts were written into: %s\nwant %s", storyWords(s), storyWords(want))
	}
}

// stretch is a piece of memory.
type stretch struct {
	from, to uintptr
	path     string
}

// stretches answers the memory of all lists in a thing, spare room and all.
func stretches(path string, v reflect.Value) []stretch {
	var l []stretch
	switch v.Kind() {
	case reflect.Struct:
		for i := range v.NumField() {
			l = append(l, stretches(path+"."+v.Type().Field(i).Name, v.Field(i))...)
		}
	case reflect.Slice:
		if size := uintptr(v.Cap()) * v.Type().Elem().Size(); size > 0 {
			l = append(l, stretch{v.Pointer(), v.Pointer() + size, path})
		}
		for i := range v.Len() {
			l = append(l, stretches(path+"[]", v.Index(i))...)
		}
	}
	return l
}

// wantApart asks that no two lists of all these things share memory.
func wantApart(t *testing.T, things map[string]any) {
	t.Helper()
	var l []stretch
	for name, x := range things {
		l = append(l, stretches(name, reflect.ValueOf(x))...)
	}
	slices.SortFunc(l, func(a, b stretch) int { return int(a.from) - int(b.from) })
	for i := 1; i < len(l); i++ {
		if l[i].from < l[i-1].to {
			t.Errorf("%s and %s share memory", l[i-1].path, l[i].path)
		}
	}
}

// busyTill answers a till with something of everything: holds, remembered requests, levels read, ops of several lives.
func busyTill(t *testing.T) (*till.Till, api.Config) {
	t.Helper()
	c := plain()
	u := fresh(t, c)
	done(t, u, 0, restock("1", line("a", 9), line("b", 6)))
	done(t, u, 0, hold("h", 10, line("b", 2), line("a", 3)))
	u = opened(t, u.Image(), c)
	done(t, u, 0, read("r", "b", "a"))
	done(t, u, 1, hold("i", 10, line("a", 1)))
	ask(t, u, 0, restock("2", line("b", 1), line("a", 1)))
	crash(t, u, nothing())
	done(t, u, 1, read("r", "a", "b"))
	done(t, u, 0, hold("j", 10, line("a", 1), line("b", 1)))
	ask(t, u, 0, restock("2", line("b", 1), line("a", 1)))
	to(t, u, 0, api.PhaseNote)
	return u, c
}

// TestR4_Apart: no two lists of an answer, or of two answers, share memory.
func TestR4_Apart(t *testing.T) {
	u, c := busyTill(t)
	things := map[string]any{}
	for _, round := range []string{"first ", "second "} {
		things[round+"story"] = u.Story()
		things[round+"state"] = u.State()
		things[round+"start"] = u.Start()
		things[round+"image"] = u.Image()
		things[round+"ready"] = u.Ready()
		things[round+"reply"], _ = u.Reply(1)
		x, _ := till.Play(c, []api.Act{askAct(0, restock("1", line("a", 5))), runAct(100), askAct(0, read("r", "a")), runAct(100)})
		things[round+"play"] = x
	}
	wantApart(t, things)
}

// scribble writes into all lists of a thing, and behind them.
func scribble(v reflect.Value) {
	switch v.Kind() {
	case reflect.Struct:
		for i := range v.NumField() {
			scribble(v.Field(i))
		}
	case reflect.Slice:
		for i := range v.Len() {
			scribble(v.Index(i))
		}
		all := v.Slice(0, v.Cap())
		for i := range all.Len() {
			all.Index(i).SetZero()
		}
	}
}

// TestR4_AnswersAreNew: what is written into answers shows nowhere else.
func TestR4_AnswersAreNew(t *testing.T) {
	u, c := busyTill(t)
	was := looksOf(u, c)
	x, y, z := u.Story(), u.State(), u.Start()
	image, ready := u.Image(), u.Ready()
	r, _ := u.Reply(1)
	scribble(reflect.ValueOf(x))
	scribble(reflect.ValueOf(y))
	scribble(reflect.ValueOf(z))
	scribble(reflect.ValueOf(image))
	scribble(reflect.ValueOf(ready))
	scribble(reflect.ValueOf(r))
	wantSame(t, "answers that are written into", u, c, was)
	// It goes on as one that nobody has asked.
	v, _ := busyTill(t)
	for _, k := range []*till.Till{u, v} {
		k.Run(greatest)
		done(t, k, 1, commit("c", "h"))
		k.Crash(nothing())
		done(t, k, 0, read("r", "b", "a"))
	}
	wantSame(t, "behind answers that were written into", u, c, looksOf(v, c))
	wantHolds(t, u, c)
}

// TestR5_AskingChangesNothing: answers hang on what was done, not on how often it was looked at; tills side by side are each for itself.
func TestR5_AskingChangesNothing(t *testing.T) {
	c := plain()
	u, v := fresh(t, c), fresh(t, c)
	for i, r := range []api.Request{restock("1", line("a", 9)), hold("h", 10, line("a", 2)), read("r", "a"), save("s"), tick("t", 10)} {
		ask(t, u, i%2, r)
		ask(t, v, i%2, r)
		for phase := api.PhaseBegin; phase != api.PhaseIdle; phase, _ = u.Phase(i % 2) {
			looksOf(u, c)
			u.Ask(i%2, r)
			u.Pick(1 - i%2)
			u.Run(0)
			u.Crash(torn(0, 129))
			looksOf(u, c)
			u.Pick(i % 2)
			v.Pick(i % 2)
		}
	}
	wantSame(t, "one that was asked often", u, c, looksOf(v, c))
}
