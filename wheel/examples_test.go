package wheel_test

import (
	"testing"

	"larder/api"
)

func TestExample1AndExample2(t *testing.T) {
	w := filled(t, 0, entry{"a", 5}, entry{"b", 64}, entry{"c", 4096})
	want(t, "Spread", w.Spread(), spread{1, 1, 1, 0, 0, 0, 0})
	at, there := w.Next()
	want(t, "Next's time", at, 5)
	want(t, "Next", there, true)

	wantTold(t, w, 5, "a")
	want(t, "Spread at 5", w.Spread(), spread{0, 1, 1})
	wantTold(t, w, 63)
	want(t, "Spread at 63", w.Spread(), spread{0, 1, 1})
	wantTold(t, w, 64, "b")
	want(t, "Spread at 64", w.Spread(), spread{0, 0, 1})
}

func TestExample3(t *testing.T) {
	w := filled(t, 63, entry{"x", 64})
	want(t, "Spread with x", w.Spread(), spread{0, 1})
	add(t, w, entry{"y", 127})
	want(t, "Spread with y", w.Spread(), spread{0, 2})
	wantTold(t, w, 64, "x")
	want(t, "Spread at 64", w.Spread(), spread{1})
}

func TestExample4(t *testing.T) {
	w := filled(t, 0, entry{"b", 7}, entry{"a", 7})
	wantTold(t, w, 9, "a", "b")
}

func TestExample5(t *testing.T) {
	w := made(t, 5)
	want(t, "Add(a, 5) at 5", w.Add("a", 5), api.ErrPast)
	want(t, "Add of no name", w.Add("", 9), api.ErrId)
	add(t, w, entry{"a", 6})
	for _, at := range []int{least, -1, 0, 5, 6, 7, api.MaxTick, api.MaxTick + 1, greatest} {
		want(t, "Add of a name that is there", w.Add("a", at), api.ErrThere)
	}
	want(t, "Change of a name that is not there", w.Change("z", 9), api.ErrNone)
	wantLike(t, w, &book{5, map[string]int{"a": 6}})
}

func TestExample6(t *testing.T) {
	w := made(t, 5)
	wantRefused(t, w, 4, api.ErrPast)
	wantTold(t, w, 5)
	wantRefused(t, w, 1<<40+1, api.ErrArg)
}

func TestExample7(t *testing.T) {
	w := made(t, 1<<40)
	want(t, "Add at the end of time", w.Add("a", 1<<40), api.ErrPast)
	want(t, "Add beyond the end of time", w.Add("a", 1<<40+1), api.ErrArg)
	want(t, "Len", w.Len(), 0)
}

func TestExample8(t *testing.T) {
	w := filled(t, 0, entry{"a", 5}, entry{"b", 64}, entry{"c", 4096})
	want(t, "Change", w.Change("a", 4096), api.OK)
	want(t, "Spread", w.Spread(), spread{0, 1, 2, 0, 0, 0, 0})
	wantTold(t, w, 4096, "b", "a", "c")
}
