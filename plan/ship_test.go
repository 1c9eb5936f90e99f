package plan_test

import (
	"cmp"
	"fmt"
	"math/rand"
	"slices"
	"testing"

	"larder/api"
	"larder/plan"
)

// has answers how many of a code a depot has.
func has(d api.Depot, code string) int {
	for _, l := range d.Stock {
		if l.Code == code {
			return l.Qty
		}
	}
	return 0
}

// enough says whether the depots at these places together have all of an order.
func enough(order []api.Line, d []api.Depot, places []int) bool {
	for _, l := range order {
		sum := 0
		for _, i := range places {
			sum += has(d[i], l.Code)
		}
		if sum < l.Qty {
			return false
		}
	}
	return true
}

func farOf(d []api.Depot, places []int) int {
	sum := 0
	for _, i := range places {
		sum += d[i].Far
	}
	return sum
}

// searched answers the parcels of an order by going over all choices, as the document says it, and what it took to tell the choice from others; none, if no choice is enough.
func searched(order []api.Line, d []api.Depot) ([]api.Parcel, bool, string) {
	var all [][]int
	for set := range 1 << len(d) {
		var places []int
		for i := range d {
			if set>>i&1 == 1 {
				places = append(places, i)
			}
		}
		if enough(order, d, places) {
			all = append(all, places)
		}
	}
	if len(all) == 0 {
		return nil, false, ""
	}
	slices.SortFunc(all, func(p, q []int) int {
		return cmp.Or(len(p)-len(q), farOf(d, p)-farOf(d, q), slices.Compare(p, q))
	})
	why := "fewest"
	if len(all) > 1 && len(all[0]) == len(all[1]) {
		why = "nearest"
		if farOf(d, all[0]) == farOf(d, all[1]) {
			why = "least places"
		}
	}
	return shared(order, d, all[0]), true, why
}

// shared answers what each depot of a choice sends, the near ones first.
func shared(order []api.Line, d []api.Depot, places []int) []api.Parcel {
	places = slices.Clone(places)
	slices.SortFunc(places, func(i, j int) int {
		if d[i].Far != d[j].Far {
			return d[i].Far - d[j].Far
		}
		return i - j
	})
	wanting := map[string]int{}
	for _, l := range order {
		wanting[l.Code] = l.Qty
	}
	var parcels []api.Parcel
	for _, i := range places {
		p := api.Parcel{Depot: i}
		for _, l := range order {
			if n := min(wanting[l.Code], has(d[i], l.Code)); n > 0 {
				p.Lines = append(p.Lines, line(l.Code, n))
				wanting[l.Code] -= n
			}
		}
		parcels = append(parcels, p)
	}
	return parcels
}

// shop draws an order and depots, with few codes, small numbers and few distances, so that many choices are alike.
func shop(r *rand.Rand, most int) ([]api.Line, []api.Depot) {
	codes := []string{"a", "a\x00", "b", "\x7f", "\x80", "\xff"}
	some := func(n, low, high int) []api.Line {
		var l []api.Line
		for _, i := range slices.Sorted(slices.Values(r.Perm(len(codes))[:n])) {
			l = append(l, line(codes[i], low+r.Intn(high-low+1)))
		}
		return l
	}
	order := some(r.Intn(4), 1, 5)
	var d []api.Depot
	for range r.Intn(most + 1) {
		d = append(d, depot(r.Intn(3), some(r.Intn(len(codes)+1), 0, 3)...))
	}
	return order, d
}

// TestP17_1_AllChoices holds Ship against a search over all choices of depots.
func TestP17_1_AllChoices(t *testing.T) {
	r := drawn(1)
	tally := map[string]int{}
	for range 20000 {
		order, d := shop(r, 7)
		want, found, why := searched(order, d)
		p, e, i := plan.Ship(order, d)
		if !found {
			tally["short"]++
			if len(p) != 0 || e != api.ErrShort || i != firstShort(order, d) {
				t.Fatalf("%s of %s: %s, %d, %d", show(order), show(d), show(p), e, i)
			}
			continue
		}
		tally[why]++
		tally[fmt.Sprint(len(want), " parcels")]++
		if !sameParcels(p, want) || e != api.OK || i != 0 {
			t.Fatalf("%s of %s: %s, %d, %d; want %s", show(order), show(d), show(p), e, i, show(want))
		}
	}
	must(t, tally, map[string]int{"short": 1000, "fewest": 1000, "nearest": 1000, "least places": 500, "0 parcels": 100, "1 parcels": 1000, "2 parcels": 1000, "3 parcels": 100, "4 parcels": 10})
}

func firstShort(order []api.Line, d []api.Depot) int {
	all := make([]int, len(d))
	for i := range all {
		all[i] = i
	}
	return slices.IndexFunc(order, func(l api.Line) bool { return !enough(lines(l), d, all) })
}

// TestP17_1_ManyDepots holds Ship against the search with as many depots and lines as there may be.
func TestP17_1_ManyDepots(t *testing.T) {
	r := drawn(2)
	tally := map[string]int{}
	for range 40 {
		order := many(maxOrder, 4)
		var d []api.Depot
		for range maxDepots {
			x := depot(r.Intn(4))
			for _, l := range many(maxOrder+3, 0) {
				if r.Intn(3) > 0 {
					x.Stock = append(x.Stock, line(l.Code, r.Intn(4)))
				}
			}
			d = append(d, x)
		}
		want, found, _ := searched(order, d)
		if !found {
			noShip(t, "many depots", order, d, api.ErrShort, firstShort(order, d))
			continue
		}
		tally["shipped"]++
		wantShip(t, "many depots", order, d, want...)
	}
	must(t, tally, map[string]int{"shipped": 20})
}

// TestP17_1_Fewest: fewer depots, however far, go ahead of nearer ones.
func TestP17_1_Fewest(t *testing.T) {
	order := lines(line("a", 4), line("b", 4))
	far := depot(maxFar, line("a", 4), line("b", 4))
	d := depots(depot(0, line("a", 4)), depot(0, line("b", 4)), depot(0, line("a", 3), line("b", 3)), far)
	wantShip(t, "one far away", order, d, parcel(3, order...))
	d[3].Stock = lines(line("a", 4), line("b", 3))
	wantShip(t, "not enough of it", order, d, parcel(0, line("a", 4)), parcel(1, line("b", 4)))
	// Three of one each, or two that are far away.
	d = depots(depot(0, line("a", 1)), depot(0, line("a", 1)), depot(0, line("a", 1)), depot(9, line("a", 2)), depot(8, line("a", 1)))
	wantShip(t, "two of five", lines(line("a", 3)), d, parcel(0, line("a", 1)), parcel(3, line("a", 2)))
}

// TestP17_1_Nearest: of as many depots those count that are nearest together, not those of which one is nearest.
func TestP17_1_Nearest(t *testing.T) {
	d := depots(depot(1, line("a", 1)), depot(9, line("a", 3)), depot(4, line("a", 2)), depot(5, line("a", 2)))
	wantShip(t, "4 and 5 ahead of 1 and 9", lines(line("a", 4)), d, parcel(2, line("a", 2)), parcel(3, line("a", 2)))
	d[1].Far = 8
	wantShip(t, "9 each: the places 0, 1 ahead of 2, 3", lines(line("a", 4)), d, parcel(0, line("a", 1)), parcel(1, line("a", 3)))
	d[1].Far = 7
	wantShip(t, "8 ahead of 9", lines(line("a", 4)), d, parcel(0, line("a", 1)), parcel(1, line("a", 3)))
	one := depots(depot(3, line("a", 9)), depot(2, line("a", 4)), depot(2, line("a", 9)), depot(2, line("a", 8)))
	wantShip(t, "the nearest one", lines(line("a", 5)), one, parcel(2, line("a", 5)))
}

// TestP17_1_Places: of choices that are as far away that one counts whose list of places is the least, as lists of numbers and not as sets of bits.
func TestP17_1_Places(t *testing.T) {
	a, b := line("a", 1), line("b", 1)
	wantShip(t, "0, 2 ahead of 0, 3 and 1, 2 and 1, 3", lines(a, b), depots(depot(5, a), depot(5, a), depot(5, b), depot(5, b)), parcel(0, a), parcel(2, b))
	wantShip(t, "1, 3, which are nearer", lines(a, b), depots(depot(2, a), depot(1, a), depot(2, b), depot(1, b)), parcel(1, a), parcel(3, b))
	d := depots(depot(3, line("a", 2)), depot(4, line("a", 1), line("b", 2)), depot(3, line("a", 1)), depot(4, line("b", 2)))
	wantShip(t, "0, 1 ahead of 0, 3 and 1, 2", lines(line("a", 2), line("b", 2)), d, parcel(0, line("a", 2)), parcel(1, line("b", 2)))
	// 0 and 3 make 7, 1 and 2 as well; no other two have all.
	d[0].Stock, d[1].Stock = lines(line("a", 2), line("c", 1)), lines(line("a", 1), line("b", 2), line("c", 1))
	d[2].Stock, d[3].Stock = lines(line("a", 1), line("c", 2)), lines(line("b", 2), line("c", 2))
	wantShip(t, "0, 3 ahead of 1, 2", lines(line("a", 2), line("b", 2), line("c", 3)), d, parcel(0, line("a", 2), line("c", 1)), parcel(3, line("b", 2), line("c", 2)))
}

// TestP17_1_Turns: the depots of a choice take their parts by Far, those of one Far by place.
func TestP17_1_Turns(t *testing.T) {
	all := func(fars ...int) []api.Depot {
		var d []api.Depot
		for _, far := range fars {
			d = append(d, depot(far, line("a", 3)))
		}
		return d
	}
	order := lines(line("a", 7))
	wantShip(t, "rising", order, all(1, 2, 3), parcel(0, line("a", 3)), parcel(1, line("a", 3)), parcel(2, line("a", 1)))
	wantShip(t, "falling", order, all(3, 2, 1), parcel(2, line("a", 3)), parcel(1, line("a", 3)), parcel(0, line("a", 1)))
	wantShip(t, "as far", order, all(2, 2, 2), parcel(0, line("a", 3)), parcel(1, line("a", 3)), parcel(2, line("a", 1)))
	wantShip(t, "two as far", order, all(2, 1, 2), parcel(1, line("a", 3)), parcel(0, line("a", 3)), parcel(2, line("a", 1)))
	// A near depot takes all it can, though a far one, which is needed for another line, has it too.
	d := depots(depot(9, line("a", 5), line("b", 1)), depot(1, line("a", 2), line("c", 1)))
	wantShip(t, "each line in turn", lines(line("a", 5), line("b", 1), line("c", 1)), d, parcel(1, line("a", 2), line("c", 1)), parcel(0, line("a", 3), line("b", 1)))
}

// TestP17_1_Enough: a line of which the depots together have just enough, and one less.
func TestP17_1_Enough(t *testing.T) {
	d := depots(depot(1, line("a", 3), line("b", 1)), depot(2, line("a", 4)), depot(3, line("b", 2)))
	wantShip(t, "just enough", lines(line("a", 7), line("b", 3)), d, parcel(0, line("a", 3), line("b", 1)), parcel(1, line("a", 4)), parcel(2, line("b", 2)))
	noShip(t, "one more of a", lines(line("a", 8), line("b", 3)), d, api.ErrShort, 0)
	noShip(t, "one more of b", lines(line("a", 7), line("b", 4)), d, api.ErrShort, 1)
	noShip(t, "of both", lines(line("a", 8), line("b", 4)), d, api.ErrShort, 0)
	noShip(t, "a code that nobody has", lines(line("a", 7), line("aa", 1), line("b", 4)), d, api.ErrShort, 1)
	noShip(t, "a code behind all", lines(line("c", 1)), d, api.ErrShort, 0)
	noShip(t, "a code ahead of all", lines(line("A", 1)), d, api.ErrShort, 0)
	noShip(t, "no depot", lines(line("a", 1)), nil, api.ErrShort, 0)
	noShip(t, "an empty one", lines(line("a", 1)), depots(depot(0)), api.ErrShort, 0)
	noShip(t, "0 of it", lines(line("a", 1)), depots(depot(0, line("a", 0))), api.ErrShort, 0)
	wantShip(t, "no order", nil, d)
	// As much as there may be: of MaxDepots depots, all but a little.
	var full []api.Depot
	for range maxDepots {
		full = append(full, depot(maxFar, line("a", maxQty/maxDepots)))
	}
	noShip(t, "a little less than MaxQty", lines(line("a", maxQty)), full, api.ErrShort, 0)
	full[11].Stock[0].Qty += maxQty % maxDepots
	var want []api.Parcel
	for i, x := range full {
		want = append(want, parcel(i, x.Stock...))
	}
	wantShip(t, "MaxQty of MaxDepots", lines(line("a", maxQty)), full, want...)
	for i := range full {
		full[i].Stock[0].Qty = maxQty
	}
	wantShip(t, "far more than enough", lines(line("a", maxQty)), full, parcel(0, line("a", maxQty)))
}

// TestP17_1_Long: MaxOrder lines, MaxDepots depots, MaxGoods lines of a depot, and one more.
func TestP17_1_Long(t *testing.T) {
	plenty := depots(depot(1, many(maxGoods, 9)...))
	wantShip(t, "MaxOrder and MaxGoods lines", many(maxOrder, 2), plenty, parcel(0, many(maxOrder, 2)...))
	noShip(t, "one line more", many(maxOrder+1, 2), plenty, api.ErrLong, 0)
	noShip(t, "many more", many(1000, 2), plenty, api.ErrLong, 0)
	last := depots(depot(1, many(maxGoods, 9)...), depot(0, many(maxGoods, 2)...))
	wantShip(t, "the last of MaxGoods lines", lines(line(code(maxGoods-1), 10)), last, parcel(1, line(code(maxGoods-1), 2)), parcel(0, line(code(maxGoods-1), 8)))
	noShip(t, "one of MaxGoods + 1", many(1, 1), depots(depot(1, many(maxGoods, 9)...), depot(1, many(maxGoods+1, 9)...)), api.ErrDepot, 1)
	all := slices.Repeat(depots(depot(1, line(code(0), 1))), maxDepots)
	goodShip(t, "MaxDepots", many(1, maxDepots), all)
	noShip(t, "MaxDepots have no more", many(1, maxDepots+1), all, api.ErrShort, 0)
	noShip(t, "one depot more", many(1, 1), append(slices.Clone(all), all[0]), api.ErrLong, 0)
	noShip(t, "one depot more, for nothing", nil, append(slices.Clone(all), all[0]), api.ErrLong, 0)
}

// badCodes are lists of three codes of which the one at place 1 is wrong.
func badCodes() map[string][]string {
	return map[string][]string{
		"none":                   {"a", "", "c"},
		"of MaxCode + 1 bytes":   {"a", long("b", maxCode+1), "c"},
		"the same twice":         {"a", "a", "c"},
		"that fall":              {"b", "a", "c"},
		"a beginning behind":     {"ab", "a", "c"},
		"bytes above 127 ahead":  {"\x80", "\x7f", "\xff"},
		"a letter above 127":     {"\xc3\xa9", "z", "\xff"},
		"a zero byte behind":     {"a\x00", "a", "c"},
		"capitals behind":        {"a", "B", "c"},
		"the same, of MaxCode":   {long("b", maxCode), long("b", maxCode), "c"},
		"of many bytes":          {"a", long("b", 5000), "c"},
		"the same of one byte 0": {"\x00", "\x00", "c"},
	}
}

// goodCodes are lists of three codes that rise.
func goodCodes() map[string][]string {
	return map[string][]string{
		"of 1 byte":       {"a", "b", "c"},
		"of MaxCode":      {long("a", maxCode), long("b", maxCode), long("c", maxCode)},
		"a beginning":     {"a", "a\x00", "ab"},
		"bytes above 127": {"\x7f", "\x80", "\xff"},
		"letters":         {"z", "\xc3\xa9", "\xff\xff"},
		"zero bytes":      {"\x00", "\x00\x00", "\x01"},
		"capitals":        {"B", "a", "b"},
	}
}

func coded(codes []string, qty int) []api.Line {
	var l []api.Line
	for _, c := range codes {
		l = append(l, line(c, qty))
	}
	return l
}

// TestP17_1_Codes: what is a code, and when codes rise, in an order and in a stock.
func TestP17_1_Codes(t *testing.T) {
	ahead := depot(3, line("a", 1))
	for name, codes := range badCodes() {
		l := coded(codes, 2)
		noShip(t, "an order with codes: "+name, l, depots(depot(0, line("b", 2))), api.ErrLine, 1)
		noShip(t, "a stock with codes: "+name, nil, depots(ahead, depot(0, l...), depot(0, l...)), api.ErrDepot, 1)
		noShip(t, "the last line of a stock: "+name, nil, depots(depot(0, l[:2]...)), api.ErrDepot, 0)
	}
	noShip(t, "no code at once", lines(line("", 1), line("a", 1)), nil, api.ErrLine, 0)
	noShip(t, "no code in a stock at once", nil, depots(depot(0, line("", 1))), api.ErrDepot, 0)
	noShip(t, "MaxCode + 1 bytes at once", lines(line(long("a", maxCode+1), 1)), nil, api.ErrLine, 0)
	noShip(t, "MaxCode + 1 bytes in a stock at once", nil, depots(depot(0, line(long("a", maxCode+1), 1))), api.ErrDepot, 0)
	for name, codes := range goodCodes() {
		l := coded(codes, 2)
		wantShip(t, "codes: "+name, l, depots(depot(0, l...)), parcel(0, l...))
		wantShip(t, "codes by halves: "+name, l, depots(depot(0, l[1]), depot(0, l[0], l[2])), parcel(0, l[1]), parcel(1, l[0], l[2]))
	}
}

// TestP17_1_Numbers: a Qty in an order, in a stock, and a Far, at their limits and beyond.
func TestP17_1_Numbers(t *testing.T) {
	rich := depots(depot(0, line("a", maxQty), line("b", maxQty)))
	for _, n := range []int{1, 2, maxQty - 1, maxQty} {
		wantShip(t, fmt.Sprint("order ", n), lines(line("a", n), line("b", n)), rich, parcel(0, line("a", n), line("b", n)))
	}
	for _, n := range []int{0, -1, maxQty + 1, greatest, lowest} {
		noShip(t, fmt.Sprint("order ", n), lines(line("a", n)), rich, api.ErrLine, 0)
		noShip(t, fmt.Sprint("order 1 and ", n), lines(line("a", 1), line("b", n)), rich, api.ErrLine, 1)
	}
	for _, n := range []int{0, 1, maxQty - 1, maxQty} {
		wantShip(t, fmt.Sprint("a stock of ", n), lines(line("b", 1)), depots(depot(0, line("a", n), line("b", 1))), parcel(0, line("b", 1)))
	}
	for _, n := range []int{-1, maxQty + 1, greatest, lowest} {
		noShip(t, fmt.Sprint("a stock of ", n), lines(line("b", 1)), depots(rich[0], depot(0, line("a", n), line("b", 1))), api.ErrDepot, 1)
		noShip(t, fmt.Sprint("a last line of ", n), lines(line("a", 1)), depots(depot(0, line("a", 1), line("b", n))), api.ErrDepot, 0)
	}
	for _, far := range []int{0, 1, maxFar - 1, maxFar} {
		wantShip(t, fmt.Sprint("Far ", far), lines(line("a", 1)), depots(depot(far, line("a", 1))), parcel(0, line("a", 1)))
	}
	for _, far := range []int{-1, maxFar + 1, greatest, lowest} {
		noShip(t, fmt.Sprint("Far ", far), lines(line("a", 1)), depots(depot(0, line("a", 1)), depot(far, line("a", 1))), api.ErrDepot, 1)
	}
	var d []api.Depot
	for range maxDepots {
		d = append(d, depot(maxFar, line("a", 1)))
	}
	d[0].Far = maxFar - 1
	goodShip(t, "all as far as can be", lines(line("a", maxDepots)), d)
	wantShip(t, "the one that is nearer", lines(line("a", 1)), d, parcel(0, line("a", 1)))
}

// TestP17_1_FirstFault: of several faults the first named counts, and of several lines or depots with one the first.
func TestP17_1_FirstFault(t *testing.T) {
	bad, worse := line("", 0), depot(-1, line("", -1))
	good, poor := line("a", 5), depot(1, line("a", 1))
	noShip(t, "long, and all else", slices.Repeat(lines(bad), maxOrder+1), depots(worse), api.ErrLong, 0)
	noShip(t, "depots, and all else", lines(bad), slices.Repeat(depots(worse), maxDepots+1), api.ErrLong, 0)
	noShip(t, "a line ahead of depots", lines(good, bad), depots(worse), api.ErrLine, 1)
	noShip(t, "a line ahead of a long stock", lines(good, bad), depots(depot(1, many(maxGoods+1, 1)...)), api.ErrLine, 1)
	noShip(t, "a depot ahead of too few", lines(good), depots(poor, worse), api.ErrDepot, 1)
	noShip(t, "too few", lines(good), depots(poor, poor), api.ErrShort, 0)
	noShip(t, "two lines", lines(line("a", 1), line("b", 0), line("b", 1)), depots(poor), api.ErrLine, 1)
	noShip(t, "two depots", lines(good), depots(poor, depot(1, line("a", -1)), depot(-1)), api.ErrDepot, 1)
	noShip(t, "no order, a bad depot", nil, depots(poor, worse), api.ErrDepot, 1)
	noShip(t, "two lines of too few", lines(line("a", 1), line("b", 1), line("c", 1)), depots(poor), api.ErrShort, 1)
}

// TestP17_2_Parcels: every parcel has lines, together they are the order, and no depot gives more than it has.
func TestP17_2_Parcels(t *testing.T) {
	r := drawn(3)
	shipped := 0
	for range 20000 {
		order, d := shop(r, maxDepots)
		parcels, e, _ := plan.Ship(order, d)
		if e != api.OK {
			continue
		}
		shipped++
		sums, seen := map[string]int{}, map[int]bool{}
		for _, p := range parcels {
			if len(p.Lines) == 0 || seen[p.Depot] {
				t.Fatalf("%s of %s: %s", show(order), show(d), show(parcels))
			}
			seen[p.Depot] = true
			for i, l := range p.Lines {
				sums[l.Code] += l.Qty
				if l.Qty < 1 || l.Qty > has(d[p.Depot], l.Code) || i > 0 && l.Code <= p.Lines[i-1].Code {
					t.Fatalf("%s of %s: %s", show(order), show(d), show(parcels))
				}
			}
		}
		for _, l := range order {
			if sums[l.Code] != l.Qty {
				t.Fatalf("%s of %s: %s", show(order), show(d), show(parcels))
			}
			delete(sums, l.Code)
		}
		if len(sums) > 0 {
			t.Fatalf("%s of %s: %s", show(order), show(d), show(parcels))
		}
	}
	if shipped < 10000 {
		t.Errorf("shipped: %d times alone", shipped)
	}
}
