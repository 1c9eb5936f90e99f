package plan_test

import (
	"math"
	"reflect"
	"slices"
	"testing"

	"larder/api"
	"larder/plan"
)

// roomed answers a thing whose lists all have spare room, filled with what spare has of their kind.
func roomed(v reflect.Value) reflect.Value {
	switch v.Kind() {
	case reflect.Struct:
		u := reflect.New(v.Type()).Elem()
		for i := range v.NumField() {
			u.Field(i).Set(roomed(v.Field(i)))
		}
		return u
	case reflect.Slice:
		n := v.Len()
		u := reflect.MakeSlice(v.Type(), n+3, n+3)
		for i := range n {
			u.Index(i).Set(roomed(v.Index(i)))
		}
		for i := range 3 {
			if x, there := spare()[v.Type().Elem()]; there {
				u.Index(n + i).Set(x)
			}
		}
		return u.Slice(0, n)
	}
	return v
}

// spare is what stands in spare room.
func spare() map[reflect.Type]reflect.Value {
	m := map[reflect.Type]reflect.Value{}
	for _, x := range []any{77, line("spare", 7), depot(7), item("spare", 7, 7, 7, 7, 7), []int{7}} {
		m[reflect.TypeOf(x)] = reflect.ValueOf(x)
	}
	return m
}

func withRoom[T any](x T) T { return roomed(reflect.ValueOf(&x).Elem()).Interface().(T) }

// everything answers a thing's lists with all of their room, in words.
func everything(v reflect.Value) string {
	text := ""
	switch v.Kind() {
	case reflect.Struct:
		for i := range v.NumField() {
			text += v.Type().Field(i).Name + " " + everything(v.Field(i)) + " "
		}
	case reflect.Slice:
		text += "["
		for i := range v.Cap() {
			text += everything(v.Slice(0, v.Cap()).Index(i)) + ","
		}
		text += "]"
	default:
		text += show(v.Interface())
	}
	return text
}

// scribble writes into all lists of a thing, and behind them.
func scribble(v reflect.Value) {
	switch v.Kind() {
	case reflect.Struct:
		for i := range v.NumField() {
			scribble(v.Field(i))
		}
	case reflect.Slice:
		for i := range v.Len() {
			scribble(v.Index(i))
		}
		all := v.Slice(0, v.Cap())
		for i := range all.Len() {
			all.Index(i).SetZero()
		}
	}
}

// stretch is a piece of memory.
type stretch struct {
	from, to uintptr
	path     string
}

// stretches answers the memory of all lists in a thing, spare room and all.
func stretches(path string, v reflect.Value) []stretch {
	var l []stretch
	switch v.Kind() {
	case reflect.Struct:
		for i := range v.NumField() {
			l = append(l, stretches(path+"."+v.Type().Field(i).Name, v.Field(i))...)
		}
	case reflect.Slice:
		if size := uintptr(v.Cap()) * v.Type().Elem().Size(); size > 0 {
			l = append(l, stretch{v.Pointer(), v.Pointer() + size, path})
		}
		for i := range v.Len() {
			l = append(l, stretches(path+"[]", v.Index(i))...)
		}
	}
	return l
}

// wantApart asks that no two lists of all these things share memory.
func wantApart(t *testing.T, things map[string]any) {
	t.Helper()
	var l []stretch
	for name, x := range things {
		l = append(l, stretches(name, reflect.ValueOf(x))...)
	}
	slices.SortFunc(l, func(a, b stretch) int { return int(a.from) - int(b.from) })
	for i := 1; i < len(l); i++ {
		if l[i].from < l[i-1].to {
			t.Errorf("%s and %s share memory", l[i-1].path, l[i].path)
		}
	}
}

// given is what all calls can be handed.
type given struct {
	order   []api.Line
	depots  []api.Depot
	items   []api.Item
	far     [][]int
	history []int
}

// rich answers something for each call, with an answer of more than one list where there can be one.
func rich() given {
	order := lines(line("a", 5), line("b", 2), line("c", 1))
	return given{
		order:   order,
		depots:  depots(depot(7, line("a", 2), line("b", 1)), depot(2, order[0]), depot(2, line("a", 3), line("c", 1)), depot(1, line("b", 1))),
		items:   items(item("a", 0, 1, 2, 9, 4), item("b", 0, 0, 0, 1, 1), item("c", 5, 5, 5, 5, 5)),
		far:     [][]int{{0, 4, 2, 1}, {1, 0, 3, 2}, {9, 1, 0, 1}, {2, 2, 2, 0}},
		history: []int{3, 1, 4, 1, 5, 9, 2, 6},
	}
}

func (g given) fields() []any { return []any{g.order, g.depots, g.items, g.far, g.history} }

func (g given) roomed() given {
	return given{withRoom(g.order), withRoom(g.depots), withRoom(g.items), withRoom(g.far), withRoom(g.history)}
}

func (g given) words() string {
	text := ""
	for _, x := range g.fields() {
		text += everything(reflect.ValueOf(x))
	}
	return text
}

// answers are what all calls answer to it: the lists, by their names.
func (g given) answers() map[string]any {
	m := map[string]any{}
	m["Ship"], _, _ = plan.Ship(g.order, g.depots)
	m["Restock"], _, _ = plan.Restock(g.items)
	m["Trip"], _, _ = plan.Trip(g.far)
	m["Smooth"], _ = plan.Smooth(g.history, 0.5)
	return m
}

// TestR4_HandedIn: what is handed in stays, its spare room too, with and without faults.
func TestR4_HandedIn(t *testing.T) {
	faulty := rich()
	faulty.order[1].Qty, faulty.items[1].Pack, faulty.far[2], faulty.history[3] = 0, 0, nil, -1
	short := rich()
	short.order[2].Qty = 9
	wrong := rich()
	wrong.depots[1].Far = -1
	for name, g := range map[string]given{"good": rich(), "faulty": faulty, "short": short, "a wrong depot": wrong} {
		g = g.roomed()
		was := g.words()
		for call, do := range map[string]func(){
			"Ship":     func() { plan.Ship(g.order, g.depots) },
			"Restock":  func() { plan.Restock(g.items) },
			"Trip":     func() { plan.Trip(g.far) },
			"Stats":    func() { plan.Stats(g.history) },
			"Smooth":   func() { plan.Smooth(g.history, 0.5) },
			"Quarters": func() { plan.Quarters(g.history) },
		} {
			if do(); g.words() != was {
				t.Errorf("%s: %s has changed what it was given", name, call)
				was = g.words()
			}
		}
	}
	q := [4]complex128{1, 2, 3, 4}
	if plan.Strong(q); q != ([4]complex128{1, 2, 3, 4}) {
		t.Error("Strong has changed what it was given")
	}
}

// TestR4_Apart: no two lists of an answer, of two answers, or of what was handed in and an answer share memory.
func TestR4_Apart(t *testing.T) {
	g := rich().roomed()
	things := map[string]any{"order": g.order, "depots": g.depots, "items": g.items, "far": g.far, "history": g.history}
	for _, round := range []string{"first ", "second "} {
		for name, x := range g.answers() {
			things[round+name] = x
		}
	}
	if p := things["first Ship"].([]api.Parcel); len(p) < 3 {
		t.Errorf("few parcels: %s", show(p))
	}
	wantApart(t, things)
	// A parcel that is the whole order, or the whole of a depot's stock, from depots whose stock is the order's own list.
	order := many(3, 2)
	one, _, _ := plan.Ship(order, depots(depot(1, order...)))
	two, _, _ := plan.Ship(order, []api.Depot{{Far: 1, Stock: order[:1]}, {Far: 1, Stock: order[1:]}})
	wantApart(t, map[string]any{"order": order, "one": one, "two": two})
}

// TestR4_AnswersAreNew: what is written into answers shows neither in what was handed in nor in later answers; what is written into what was handed in shows in no answer.
func TestR4_AnswersAreNew(t *testing.T) {
	g := rich()
	was, first := g.words(), map[string]string{}
	for name, x := range g.answers() {
		first[name] = show(x)
		scribble(reflect.ValueOf(x))
	}
	if g.words() != was {
		t.Error("what is written into answers shows in what was handed in")
	}
	later := g.answers()
	for _, x := range g.fields() {
		scribble(reflect.ValueOf(x))
	}
	for name, x := range later {
		if show(x) != first[name] {
			t.Errorf("%s: %s, then %s", name, first[name], show(x))
		}
	}
}

// TestR3_NilAndEmpty: lists that are nil and lists that are empty are the same.
func TestR3_NilAndEmpty(t *testing.T) {
	wantShip(t, "no order", []api.Line{}, depots(api.Depot{}, api.Depot{Stock: []api.Line{}}))
	wantShip(t, "no depots", nil, []api.Depot{})
	noShip(t, "no depots", lines(line("a", 1)), []api.Depot{}, api.ErrShort, 0)
	noShip(t, "empty stock", lines(line("a", 1)), depots(api.Depot{}, api.Depot{Stock: []api.Line{}}), api.ErrShort, 0)
	wantShip(t, "empty stock beside another", lines(line("a", 1)), depots(api.Depot{}, api.Depot{Stock: []api.Line{}}, depot(5, line("a", 1))), parcel(2, line("a", 1)))
	wantRestock(t, "no items", []api.Item{})
	wantTrip(t, "no stops", [][]int{}, 0)
	noTrip(t, "an empty row", [][]int{{}}, api.ErrFar)
	noTrip(t, "a nil row", [][]int{nil}, api.ErrFar)
	wantStats(t, "no numbers", []int{}, 0, 0)
	wantSmooth(t, "no numbers", []int{}, 1)
	wantQuarters(t, "no numbers", []int{}, 0, 0, 0, 0)
}

// TestR1_Anything: numbers and texts of any kind, in all that can be asked: each call answers, and with an error zeros alone.
func TestR1_Anything(t *testing.T) {
	r := drawn(26)
	number := func() int {
		if r.Intn(8) > 0 {
			return r.Intn(4)
		}
		return []int{-1, greatest, lowest, maxQty, maxQty + 1, maxFar, maxFar + 1, maxLead, maxLead + 1}[r.Intn(9)]
	}
	text := func() string {
		return []string{"a", "b", "c", "", "\xff\x00", long("x", maxCode), long("x", maxCode+1)}[r.Intn(7)]
	}
	float := func() float64 {
		return []float64{0, 1, 0.5, -1, math.NaN(), math.Inf(1), math.Inf(-1), math.MaxFloat64, math.SmallestNonzeroFloat64, 1e9, 10}[r.Intn(11)]
	}
	some := func(most int) []api.Line {
		var l []api.Line
		for range r.Intn(most) {
			l = append(l, line(text(), number()))
		}
		return l
	}
	errors := map[api.Errno]int{}
	for range 20000 {
		var d []api.Depot
		for range r.Intn(14) {
			d = append(d, api.Depot{Far: number(), Stock: some(3)})
		}
		p, e, i := plan.Ship(some(4), d)
		if errors[e]++; e != api.OK && len(p) > 0 || (e == api.OK || e == api.ErrLong) && i != 0 {
			t.Fatalf("Ship: %s, %d, %d", show(p), e, i)
		}
		var list []api.Item
		for range r.Intn(4) {
			list = append(list, item(text(), number(), number(), number(), number(), number()))
		}
		l, e, i := plan.Restock(list)
		if errors[e]++; e != api.OK && len(l) > 0 || e == api.OK && i != 0 {
			t.Fatalf("Restock: %s, %d, %d", show(l), e, i)
		}
		var far [][]int
		for range r.Intn(4) {
			var row []int
			for range r.Intn(4) {
				row = append(row, number())
			}
			far = append(far, row)
		}
		order, length, e := plan.Trip(far)
		if errors[e]++; e != api.OK && (len(order) > 0 || length != 0) || e == api.OK && len(order) != len(far) {
			t.Fatalf("Trip: %v, %d, %d", order, length, e)
		}
		var history []int
		for range r.Intn(5) {
			history = append(history, number())
		}
		mean, dev, e := plan.Stats(history)
		smooth, f := plan.Smooth(history, float())
		q, g := plan.Quarters(history)
		if e != g || e != api.OK && (mean != 0 || dev != 0 || q != [4]complex128{} || f == api.OK) || f != api.OK && len(smooth) > 0 {
			t.Fatalf("%v: %v, %v, %d; %v, %d; %v, %d", history, mean, dev, e, smooth, f, q, g)
		}
		if n, e := plan.Point(api.Need{Mean: float(), Dev: float(), Z: float(), Lead: number()}); n < 0 || e != api.OK && n != 0 {
			t.Fatalf("Point: %d, %d", n, e)
		}
		for k := range q {
			q[k] = complex(float(), float())
		}
		if k, x, e := plan.Strong(q); e != api.OK && (k != 0 || x != 0) || e == api.OK && k != 1 && k != 2 {
			t.Fatalf("Strong: %d, %v, %d", k, x, e)
		}
	}
	for _, e := range []api.Errno{api.OK, api.ErrLong, api.ErrLine, api.ErrDepot, api.ErrShort, api.ErrFar} {
		if errors[e] < 50 {
			t.Errorf("error %d: %d times alone", e, errors[e])
		}
	}
}
