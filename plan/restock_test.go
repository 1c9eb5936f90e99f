package plan_test

import (
	"fmt"
	"slices"
	"testing"

	"larder/api"
	"larder/plan"
)

func item(code string, have, coming, point, upto, pack int) api.Item {
	return api.Item{Code: code, Have: have, Coming: coming, Point: point, Upto: upto, Pack: pack}
}

func items(l ...api.Item) []api.Item { return l }

// multiple answers the least multiple of an item's Pack that is to be ordered, found one by one; 0, if none is.
func multiple(x api.Item) int {
	there := x.Have + x.Coming
	if !(there <= x.Point && there < x.Upto) {
		return 0
	}
	n := 0
	for there+n < x.Upto {
		n += x.Pack
	}
	return n
}

// TestP17_3_Multiples holds Restock against a search over the multiples of Pack: all small items, and lists of them.
func TestP17_3_Multiples(t *testing.T) {
	const most = 6
	ordered := 0
	for n := range most * most * most * most * most {
		x := item("a", n%most, n/most%most, n/most/most%most, n/most/most/most%most, n/most/most/most/most+1)
		var want []api.Line
		if m := multiple(x); m > 0 {
			ordered++
			want = lines(line("a", m))
		}
		wantRestock(t, show(x), items(x), want...)
	}
	if ordered < 500 {
		t.Errorf("ordered: %d times alone", ordered)
	}
	r := drawn(4)
	for range 3000 {
		var l []api.Item
		var want []api.Line
		for i := range r.Intn(9) {
			x := item(code(i), r.Intn(30), r.Intn(30), r.Intn(50), r.Intn(200), 1+r.Intn(30))
			l = append(l, x)
			if m := multiple(x); m > 0 {
				want = append(want, line(x.Code, m))
			}
		}
		wantRestock(t, show(l), l, want...)
	}
}

// TestP17_3_Around: sums at and around Point and Upto.
func TestP17_3_Around(t *testing.T) {
	for _, have := range []int{0, 5, 10} {
		rest := 10 - have
		wantRestock(t, "at Point", items(item("a", have, rest, 10, 12, 1)), line("a", 2))
		wantRestock(t, "below Point", items(item("a", have, rest, 11, 12, 1)), line("a", 2))
		wantRestock(t, "above Point", items(item("a", have, rest, 9, 12, 1)))
		wantRestock(t, "at Upto", items(item("a", have, rest, 10, 10, 1)))
		wantRestock(t, "above Upto", items(item("a", have, rest, 10, 9, 1)))
		wantRestock(t, "one below Upto", items(item("a", have, rest, 10, 11, 1)), line("a", 1))
		wantRestock(t, "one below Upto, in packs", items(item("a", have, rest, 10, 11, 7)), line("a", 7))
		wantRestock(t, "just a pack", items(item("a", have, rest, 10, 17, 7)), line("a", 7))
		wantRestock(t, "a pack and one", items(item("a", have, rest, 10, 18, 7)), line("a", 14))
		wantRestock(t, "a pack less one", items(item("a", have, rest, 10, 16, 7)), line("a", 7))
	}
	wantRestock(t, "nothing there", items(item("a", 0, 0, 0, 1, 1)), line("a", 1))
	wantRestock(t, "nothing wanted", items(item("a", 0, 0, 0, 0, 1)))
	wantRestock(t, "Coming alone", items(item("a", 0, 3, 3, 10, 4)), line("a", 8))
}

// TestP17_3_Great: numbers as great as they may be.
func TestP17_3_Great(t *testing.T) {
	const m = maxQty
	wantRestock(t, "all of it", items(item("a", 0, 0, m, m, 1)), line("a", m))
	wantRestock(t, "in one pack", items(item("a", 0, 0, m, m, m)), line("a", m))
	wantRestock(t, "in two", items(item("a", 0, 0, m, m, m-1)), line("a", 2*(m-1)))
	wantRestock(t, "one wanting", items(item("a", m-1, 0, m, m, 1)), line("a", 1))
	wantRestock(t, "one wanting, in a great pack", items(item("a", 0, m-1, m, m, m)), line("a", m))
	wantRestock(t, "in packs of three", items(item("a", 1, 1, m, m, 3)), line("a", (m-2+2)/3*3))
	wantRestock(t, "more than enough", items(item("a", m, m, m, m, m)))
	wantRestock(t, "enough", items(item("a", m, 0, m, m, m)))
}

// TestP17_3_Numbers: each number of an item at its limits and beyond.
func TestP17_3_Numbers(t *testing.T) {
	set := map[string]func(x *api.Item, n int){
		"Have":   func(x *api.Item, n int) { x.Have = n },
		"Coming": func(x *api.Item, n int) { x.Coming = n },
		"Point":  func(x *api.Item, n int) { x.Point = n },
		"Upto":   func(x *api.Item, n int) { x.Upto = n },
		"Pack":   func(x *api.Item, n int) { x.Pack = n },
	}
	for name, put := range set {
		for _, n := range []int{-1, 0, 1, maxQty, maxQty + 1, greatest, lowest} {
			x := item("b", 1, 1, 5, 9, 2)
			put(&x, n)
			l := items(item("a", 0, 0, 0, 0, 1), x, item("c", 0, 0, 0, 0, 1))
			told := fmt.Sprint(name, " ", n)
			if n < 0 || n > maxQty || name == "Pack" && n == 0 {
				noRestock(t, told, l, api.ErrLine, 1)
				noRestock(t, told+" alone", items(x), api.ErrLine, 0)
				continue
			}
			var want []api.Line
			if m := roundedUp(x); m > 0 {
				want = lines(line("b", m))
			}
			wantRestock(t, told, l, want...)
		}
	}
}

// roundedUp is multiple without going over the multiples.
func roundedUp(x api.Item) int {
	there := x.Have + x.Coming
	if there > x.Point || there >= x.Upto {
		return 0
	}
	n := (x.Upto - there) / x.Pack * x.Pack
	if there+n < x.Upto {
		n += x.Pack
	}
	return n
}

// TestP17_3_Codes: what is a code, and when items rise.
func TestP17_3_Codes(t *testing.T) {
	list := func(codes []string) []api.Item {
		var l []api.Item
		for _, c := range codes {
			l = append(l, item(c, 0, 0, 1, 2, 2))
		}
		return l
	}
	for name, codes := range badCodes() {
		noRestock(t, "codes: "+name, list(codes), api.ErrLine, 1)
		noRestock(t, "the last code: "+name, list(codes[:2]), api.ErrLine, 1)
	}
	for name, codes := range goodCodes() {
		wantRestock(t, "codes: "+name, list(codes), coded(codes, 2)...)
	}
	noRestock(t, "no code", list([]string{""}), api.ErrLine, 0)
	noRestock(t, "MaxCode + 1 bytes", list([]string{long("a", maxCode+1)}), api.ErrLine, 0)
	noRestock(t, "the last of three", list([]string{"a", "b", "b"}), api.ErrLine, 2)
}

// TestP17_3_Long: no item, MaxItems, and one more, which goes ahead of all else.
func TestP17_3_Long(t *testing.T) {
	wantRestock(t, "none", nil)
	var l []api.Item
	for i := range maxItems + 1 {
		l = append(l, item(code(i), 0, 0, 0, 3, 3))
	}
	wantRestock(t, "MaxItems", l[:maxItems], many(maxItems, 3)...)
	noRestock(t, "one more", l, api.ErrLong, 0)
	l[0].Code, l[7].Pack = "", 0
	noRestock(t, "one more, and faults", l, api.ErrLong, 0)
	noRestock(t, "MaxItems with faults", l[:maxItems], api.ErrLine, 0)
	noRestock(t, "with the one behind", l[1:], api.ErrLine, 6)
}

// TestP17_3_FirstFault: several faults at once, in one item and in different ones.
func TestP17_3_FirstFault(t *testing.T) {
	good := item("a", 0, 0, 1, 2, 1)
	noRestock(t, "in one", items(good, item("", -1, -1, -1, -1, 0)), api.ErrLine, 1)
	noRestock(t, "in two", items(good, item("b", 0, 0, 0, 0, 0), item("", 0, 0, 0, 0, 1)), api.ErrLine, 1)
	noRestock(t, "in two, turned round", items(good, item("a", 0, 0, 0, 0, 1), item("b", -1, 0, 0, 0, 1)), api.ErrLine, 1)
}

// TestP17_3_InOrder: the lines stand in the items' order, each with its own number.
func TestP17_3_InOrder(t *testing.T) {
	l := items(item("a", 9, 0, 3, 10, 1), item("b", 1, 1, 3, 10, 3), item("c", 0, 3, 3, 9, 5), item("d", 0, 4, 3, 9, 5), item("e", 0, 0, 0, 1, 12))
	wantRestock(t, "five items", l, line("b", 9), line("c", 10), line("e", 12))
	slices.Reverse(l)
	if got, e, i := plan.Restock(l); len(got) != 0 || e != api.ErrLine || i != 1 {
		t.Errorf("turned round: %v, %d, %d", got, e, i)
	}
}
