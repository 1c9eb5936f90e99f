package lin_test

import (
	"math/rand"
	"reflect"
	"slices"
	"testing"

	"larder/api"
	"larder/lin"
)

// roomed answers a thing whose lists all have spare room, filled with what rest has of their kind.
func roomed(v reflect.Value, rest map[reflect.Type]reflect.Value) reflect.Value {
	switch v.Kind() {
	case reflect.Struct:
		u := reflect.New(v.Type()).Elem()
		for i := range v.NumField() {
			u.Field(i).Set(roomed(v.Field(i), rest))
		}
		return u
	case reflect.Slice:
		n := v.Len()
		u := reflect.MakeSlice(v.Type(), n+3, n+3)
		for i := range n {
			u.Index(i).Set(roomed(v.Index(i), rest))
		}
		for i := range 3 {
			u.Index(n + i).Set(rest[v.Type().Elem()])
		}
		return u.Slice(0, n)
	}
	return v
}

// spare is what stands in spare room.
func spare() map[reflect.Type]reflect.Value {
	m := map[reflect.Type]reflect.Value{}
	for _, x := range []any{77, line("spare", 7), api.Level{Code: "spare", OnHand: 7}, api.Held{Id: "spare"}, api.Done{At: 7}, api.Op{Begin: 7}} {
		m[reflect.TypeOf(x)] = reflect.ValueOf(x)
	}
	return m
}

func withRoom[T any](x T) T { return roomed(reflect.ValueOf(&x).Elem(), spare()).Interface().(T) }

// everything answers a thing's lists with all of their room, in words.
func everything(v reflect.Value) string {
	text := ""
	switch v.Kind() {
	case reflect.Struct:
		for i := range v.NumField() {
			text += v.Type().Field(i).Name + " " + everything(v.Field(i)) + " "
		}
	case reflect.Slice:
		text += "["
		for i := range v.Cap() {
			text += everything(v.Slice(0, v.Cap()).Index(i)) + ","
		}
		text += "]"
	default:
		text += show(v.Interface())
	}
	return text
}

// scribble writes into all lists of a thing, and behind them.
func scribble(v reflect.Value) {
	switch v.Kind() {
	case reflect.Struct:
		for i := range v.NumField() {
			scribble(v.Field(i))
		}
	case reflect.Slice:
		for i := range v.Len() {
			scribble(v.Index(i))
		}
		all := v.Slice(0, v.Cap())
		for i := range all.Len() {
			all.Index(i).SetZero()
		}
	}
}

// stretch is a piece of memory.
type stretch struct {
	from, to uintptr
	path     string
}

// stretches answers the memory of all lists in a thing, spare room and all.
func stretches(path string, v reflect.Value) []stretch {
	var l []stretch
	switch v.Kind() {
	case reflect.Struct:
		for i := range v.NumField() {
			l = append(l, stretches(path+"."+v.Type().Field(i).Name, v.Field(i))...)
		}
	case reflect.Slice:
		if size := uintptr(v.Cap()) * v.Type().Elem().Size(); size > 0 {
			l = append(l, stretch{v.Pointer(), v.Pointer() + size, path})
		}
		for i := range v.Len() {
			l = append(l, stretches(path+"[]", v.Index(i))...)
		}
	}
	return l
}

// wantApart asks that no two lists of all these things share memory.
func wantApart(t *testing.T, things map[string]any) {
	t.Helper()
	var l []stretch
	for name, x := range things {
		l = append(l, stretches(name, reflect.ValueOf(x))...)
	}
	slices.SortFunc(l, func(a, b stretch) int { return int(a.from) - int(b.from) })
	for i := 1; i < len(l); i++ {
		if l[i].from < l[i-1].to {
			t.Errorf("%s and %s share memory", l[i-1].path, l[i].path)
		}
	}
}

// rich is a history with something of everything, an order of it, and the state that it holds from.
func rich(t *testing.T) ([]api.Op, []int, api.State) {
	t.Helper()
	s := behind(t, empty(), restock("0", line("b", 9), line("a", 9)), hold("g", 9, line("b", 1), line("a", 2)))
	ops := inTurn(t, s, []api.Request{
		restock("1", line("b", 1), line("a", 2), line("b", 3)), hold("h", 10, line("b", 2), line("a", 1)), read("r", "b", "a"), writeoff("w", line("a", 99)),
		commit("c", "g"), hold("h", 10, line("a", 1), line("b", 2)), tick("t", 5),
	})
	ops[1] = open(ops[1].Request, ops[1].Begin, ops[1].End)
	ops = append(ops, open(hold("k", 3, line("b", 1)), 4, api.MaxMoment))
	return ops, []int{0, 1, 2, 3, 4, 5, 6}, s
}

// TestP16_12_HandedIn: what is handed in stays, its spare room too.
func TestP16_12_HandedIn(t *testing.T) {
	ops, order, s := rich(t)
	if good, e := lin.Holds(ops, order, s); !good || e != api.OK {
		t.Fatalf("Holds: %v, %d", good, e)
	}
	lines := func(ops []api.Op, order []int, s api.State) string {
		return everything(reflect.ValueOf(ops)) + everything(reflect.ValueOf(order)) + everything(reflect.ValueOf(s))
	}
	for _, list := range [][]api.Op{ops, drawerOf(t, 1).spoilt(ops), append(slices.Clone(ops), ops...), {held("h", 3, 2)}} {
		for _, start := range []api.State{s, {Levels: s.Levels, Holds: s.Holds, Done: s.Done}} {
			given, inOrder, from := withRoom(list), withRoom(order), withRoom(start)
			was := lines(given, inOrder, from)
			for name, call := range map[string]func(){
				"Check":  func() { lin.Check(given) },
				"Ahead":  func() { lin.Ahead(given[0], given[len(given)-1]) },
				"Holds":  func() { lin.Holds(given, inOrder, from) },
				"Final":  func() { lin.Final(given, inOrder, from) },
				"Order":  func() { lin.Order(given, from) },
				"Least":  func() { lin.Least(given, from) },
				"Until":  func() { lin.Until(given, 4) },
				"Rounds": func() { count(given) },
			} {
				if call(); lines(given, inOrder, from) != was {
					t.Errorf("%s has changed what it was given", name)
					was = lines(given, inOrder, from)
				}
			}
		}
	}
}

// TestR4_Apart: no two lists of an answer, of two answers, or of what was handed in and an answer share memory.
func TestR4_Apart(t *testing.T) {
	ops, order, s := rich(t)
	ops, order, s = withRoom(ops), withRoom(order), withRoom(s)
	things := map[string]any{"ops": ops, "order handed in": order, "start": s}
	for _, round := range []string{"first ", "second "} {
		things[round+"Final"], _ = lin.Final(ops, order, s)
		things[round+"Order"], _, _ = lin.Order(ops, s)
		things[round+"Until all"] = lin.Until(ops, api.MaxMoment)
		things[round+"Until 4"] = lin.Until(ops, 4)
		things[round+"Final of nothing"], _ = lin.Final(nil, nil, s)
		things[round+"Rounds"] = slices.Collect(lin.Rounds(ops))
	}
	wantApart(t, things)
	// Ops whose lists lie in one memory, and one op twice.
	lines := []api.Line{line("a", 1), line("b", 1)}
	levels := []api.Level{{Code: "a"}, {Code: "b"}}
	shared := []api.Op{told(restock("1", lines...), api.Reply{Levels: levels}, 0, 1), told(restock("2", lines[:1]...), api.Reply{Levels: levels[1:]}, 0, 1)}
	shared = append(shared, shared[0], open(hold("3", 1, lines...), 0, 9))
	wantApart(t, map[string]any{"Until": lin.Until(shared, 1), "Until earlier": lin.Until(shared, 0)})
}

// TestR4_AnswersAreNew: what is written into answers shows neither in what was handed in nor in later answers; what is written into what was handed in shows in no answer.
func TestR4_AnswersAreNew(t *testing.T) {
	ops, order, s := rich(t)
	wasOps, wasState := copyOps(ops), behind(t, s)
	final, _ := lin.Final(ops, order, s)
	found, _, _ := lin.Order(ops, s)
	seen := lin.Until(ops, 9)
	scribble(reflect.ValueOf(final))
	scribble(reflect.ValueOf(found))
	scribble(reflect.ValueOf(seen))
	if !sameOps(ops, wasOps) || !sameState(s, wasState) || !slices.Equal(order, rising(7)) {
		t.Error("what is written into answers shows in what was handed in")
	}
	wantHolds(t, "behind answers that were written over", ops, order, s, true)
	wantUntil(t, "behind answers that were written over", ops, 9, seenBy(wasOps, 9)...)
	final, _ = lin.Final(ops, order, s)
	found, _, _ = lin.Order(ops, s)
	seen = lin.Until(ops, 9)
	last, _ := fits(t, wasOps, order, wasState)
	least := slices.Clone(found)
	scribble(reflect.ValueOf(ops))
	scribble(reflect.ValueOf(order))
	scribble(reflect.ValueOf(s))
	if !sameState(final, last) || !slices.Equal(found, least) || !sameOps(seen, seenBy(wasOps, 9)) {
		t.Error("what is written into what was handed in shows in answers")
	}
	wantHolds(t, "a list that Order has answered", wasOps, found, wasState, true)
}

// TestR3_NilAndEmpty: lists that are nil and lists that are empty are the same.
func TestR3_NilAndEmpty(t *testing.T) {
	ops, order, s := rich(t)
	bare := copyOps(ops)
	for i := range bare {
		if len(bare[i].Request.Lines) == 0 {
			bare[i].Request.Lines = []api.Line{}
		}
		if len(bare[i].Reply.Levels) == 0 {
			bare[i].Reply.Levels = []api.Level{}
		}
	}
	wantCheck(t, "empty lists", bare, api.OK, 0)
	wantHolds(t, "empty lists", bare, order, s, true)
	found, _, _ := lin.Order(ops, s)
	wantOrder(t, "empty lists", bare, s, found...)
	wantUntil(t, "empty lists", bare, 9, seenBy(ops, 9)...)
	start := five()
	start.Holds, start.Done = []api.Held{}, []api.Done{}
	wantOrder(t, "empty lists in a state", []api.Op{held("h", 0, 1)}, start, 0)
}

// TestR1_Anything: numbers and texts of any kind, in all that can be asked: each call answers.
func TestR1_Anything(t *testing.T) {
	r := rand.New(rand.NewSource(1))
	number := func() int {
		return []int{0, 1, 2, -1, greatest, least, api.MaxMoment, api.MaxMoment + 1, r.Intn(12), r.Intn(12)}[r.Intn(10)]
	}
	text := func() string { return []string{"", "a", "b", "h", "\xff\x00", string(make([]byte, 100))}[r.Intn(6)] }
	for range 3000 {
		var ops []api.Op
		for range r.Intn(11) {
			o := api.Op{Begin: number(), End: number(), Open: r.Intn(2) == 0}
			o.Request = api.Request{Id: text(), Kind: number(), Lines: []api.Line{line(text(), number())}, Hold: text(), Ttl: number(), Now: number()}
			if !o.Open || r.Intn(9) == 0 {
				o.Reply = api.Reply{Id: text(), Err: api.Errno(number()), Line: number(), Now: number()}
			}
			ops = append(ops, o)
		}
		var order []int
		for range r.Intn(12) {
			order = append(order, number())
		}
		s := five()
		if r.Intn(4) == 0 {
			s = api.State{Room: number(), Lsn: number(), Now: number(), Levels: []api.Level{{Code: text(), OnHand: number(), Held: number()}}}
		}
		e, _ := lin.Check(ops)
		good, f := lin.Holds(ops, order, s)
		if u, g := lin.Final(ops, order, s); g == api.OK != good || f != api.OK && g != f || e != api.OK && f != e || g != api.OK && !sameState(u, api.State{}) {
			t.Fatalf("%s, %v: %d, %d, %d", show(ops), order, e, f, g)
		}
		l, is, g := lin.Order(ops, s)
		m, bad, k := lin.Least(ops, s)
		if g != k || is && bad || g == api.OK && is == bad || g != api.OK && (is || bad || m != 0) || !is && len(l) > 0 {
			t.Fatalf("%s: %v, %v, %d; %d, %v, %d", show(ops), l, is, g, m, bad, k)
		}
		lin.Until(ops, number())
		for range lin.Rounds(ops) {
			break
		}
	}
}

// TestR5_Again: what is answered hangs on what is handed in alone: asked again, and between other questions, it is the same.
func TestR5_Again(t *testing.T) {
	d := drawerOf(t, 5)
	for range 100 {
		start := d.start()
		ops, _ := d.history(start, 1+d.r.Intn(7))
		order, good, _ := lin.Order(ops, start)
		at, bad, _ := lin.Least(ops, start)
		other, _ := d.history(start, 6)
		lin.Order(d.spoilt(other), start)
		again, is, _ := lin.Order(copyOps(ops), behind(t, start))
		moment, wrong, _ := lin.Least(copyOps(ops), behind(t, start))
		if !slices.Equal(order, again) || good != is || at != moment || bad != wrong {
			t.Fatalf("%s: %v, %v, %d, %v; again %v, %v, %d, %v", show(ops), order, good, at, bad, again, is, moment, wrong)
		}
	}
}
