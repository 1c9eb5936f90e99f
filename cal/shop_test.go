package cal_test

import (
	"math/rand"
	"slices"
	"testing"

	"larder/api"
	"larder/cal"
)

var (
	firstDay = date(0, 1, 1)
	lastDay  = date(9999, 12, 31)
	workdays = [7]bool{true, true, true, true, true}
	everyDay = [7]bool{true, true, true, true, true, true, true}
)

func of(n int) api.Date {
	d, _ := cal.Of(n)
	return d
}

func number(d api.Date) int {
	n, _ := cal.Days(d)
	return n
}

// slowOpen says whether the shop is open as P3.10 tells it; day 0 is a Saturday.
func slowOpen(r api.Rule, n int) bool {
	return slices.Contains(r.Extra, of(n)) || r.Days[(n+5)%7] && !slices.Contains(r.Shut, of(n))
}

// slowMove goes day by day.
func slowMove(r api.Rule, n, moves int) (api.Date, api.Errno) {
	step, left := 1, moves
	if moves < 0 {
		step, left = -1, -moves
	}
	if moves == 0 && !slowOpen(r, n) {
		return api.Date{}, api.ErrShut
	}
	for left > 0 {
		n += step
		if n < 0 || n > api.MaxDay {
			return api.Date{}, api.ErrRange
		}
		if slowOpen(r, n) {
			left--
		}
	}
	return of(n), api.OK
}

func wantOpen(t *testing.T, r api.Rule, d api.Date, want bool, wantE api.Errno) {
	t.Helper()
	if open, e := cal.Open(r, d); open != want || e != wantE {
		t.Errorf("Open(%.200v, %v): %v, %d; want %v, %d", r, d, open, e, want, wantE)
	}
}

func wantMove(t *testing.T, r api.Rule, d api.Date, n int, want api.Date, wantE api.Errno) {
	t.Helper()
	if got, e := cal.Move(r, d, n); got != want || e != wantE {
		t.Errorf("Move(%.200v, %v, %d): %v, %d; want %v, %d", r, d, n, got, e, want, wantE)
	}
}

func wantCount(t *testing.T, r api.Rule, from, to api.Date, want int, wantE api.Errno) {
	t.Helper()
	if n, e := cal.Count(r, from, to); n != want || e != wantE {
		t.Errorf("Count(%.200v, %v, %v): %d, %d; want %d, %d", r, from, to, n, e, want, wantE)
	}
}

// randomRule has some special days from a day on, none of them in both lists.
func randomRule(r *rand.Rand, first, days int) api.Rule {
	var x api.Rule
	for i := range x.Days {
		x.Days[i] = r.Intn(2) == 0
	}
	for n := first; n < first+days && n <= api.MaxDay; n++ {
		switch r.Intn(6) {
		case 0:
			x.Shut = append(x.Shut, of(n))
		case 1:
			x.Extra = append(x.Extra, of(n))
		}
	}
	return x
}

// starts are days at the ends of the calendar and between.
var starts = []int{0, 1, 731000, api.MaxDay - 30, api.MaxDay - 1}

func TestP3_10AnyRule(t *testing.T) {
	r := rand.New(rand.NewSource(10))
	for i := range 400 {
		first := starts[i%len(starts)]
		x := randomRule(r, first, 30)
		for n := max(0, first-10); n < first+40 && n <= api.MaxDay; n++ {
			wantOpen(t, x, of(n), slowOpen(x, n), api.OK)
		}
	}
}

func TestP3_10TheWeekBeginsOnMonday(t *testing.T) {
	for i := range 7 {
		var r api.Rule
		r.Days[i] = true
		for j := range 7 {
			wantOpen(t, r, date(2004, 1, 5+j), i == j, api.OK)
		}
		wantOpen(t, r, firstDay, i == 5, api.OK)
		wantOpen(t, r, lastDay, i == 4, api.OK)
	}
}

func TestP3_10SpecialDays(t *testing.T) {
	monday, sunday := date(2004, 1, 5), date(2004, 1, 11)
	r := api.Rule{Days: workdays, Shut: []api.Date{monday}, Extra: []api.Date{sunday}}
	wantOpen(t, r, monday, false, api.OK)
	wantOpen(t, r, sunday, true, api.OK)
	wantOpen(t, r, date(2004, 1, 12), true, api.OK)
	wantOpen(t, r, date(2004, 1, 4), false, api.OK)
	r = api.Rule{Days: workdays, Shut: []api.Date{sunday}, Extra: []api.Date{monday}} // nothing but what the week says anyway
	wantOpen(t, r, monday, true, api.OK)
	wantOpen(t, r, sunday, false, api.OK)
	wantOpen(t, api.Rule{Days: everyDay, Shut: []api.Date{firstDay, lastDay}}, firstDay, false, api.OK)
	wantOpen(t, api.Rule{Days: everyDay, Shut: []api.Date{firstDay, lastDay}}, lastDay, false, api.OK)
	wantOpen(t, api.Rule{Extra: []api.Date{firstDay, lastDay}}, firstDay, true, api.OK)
	wantOpen(t, api.Rule{Extra: []api.Date{firstDay, lastDay}}, lastDay, true, api.OK)
	wantOpen(t, api.Rule{Shut: []api.Date{}, Extra: []api.Date{}}, lastDay, false, api.OK)
}

// manyDates answers dates two days apart.
func manyDates(first, size int) []api.Date {
	var l []api.Date
	for i := range size {
		l = append(l, of(first+2*i))
	}
	return l
}

// wrongLists are lists of dates that no rule may have.
func wrongLists() [][]api.Date {
	a, b, c := date(2004, 1, 5), date(2004, 1, 6), date(2004, 2, 1)
	l := [][]api.Date{{b, a}, {a, a}, {a, b, b}, {a, c, b}, {c, a, b}, {a, b, a}, manyDates(730000, api.MaxDates+1), manyDates(0, 3000)}
	for _, d := range noDays() {
		l = append(l, []api.Date{d})
	}
	return append(l, []api.Date{date(2003, 2, 28), date(2003, 2, 29), date(2003, 3, 1)}, []api.Date{a, {}}, []api.Date{a, b, date(10000, 1, 1)})
}

func TestP3_10To3_12WrongRules(t *testing.T) {
	var rules []api.Rule
	for _, l := range wrongLists() {
		rules = append(rules, api.Rule{Shut: l}, api.Rule{Days: everyDay, Extra: l}, api.Rule{Shut: l, Extra: manyDates(5, 3)}, api.Rule{Shut: manyDates(5, 3), Extra: l})
	}
	both := manyDates(730000, api.MaxDates)
	for _, i := range []int{0, 1, 500, api.MaxDates - 1} {
		rules = append(rules, api.Rule{Shut: both, Extra: both[i : i+1]}, api.Rule{Shut: both[i : i+1], Extra: both})
	}
	for _, r := range append(rules, api.Rule{Shut: both, Extra: both}) {
		for _, d := range []api.Date{date(2004, 1, 7), {}} {
			wantOpen(t, r, d, false, api.ErrRule)
			wantMove(t, r, d, 0, api.Date{}, api.ErrRule)
			wantMove(t, r, d, 1, api.Date{}, api.ErrRule)
			wantMove(t, r, d, api.MaxMove+1, api.Date{}, api.ErrRule)
			wantCount(t, r, d, d, 0, api.ErrRule)
			wantCount(t, r, d, firstDay, 0, api.ErrRule)
		}
	}
}

func TestP3_10To3_12RulesOfMaxDates(t *testing.T) {
	r := api.Rule{Shut: manyDates(730000, api.MaxDates), Extra: manyDates(730001, api.MaxDates)}
	for _, n := range []int{730000, 730001, 731000, 731001, 731998, 731999} {
		wantOpen(t, r, of(n), n%2 == 1, api.OK)
	}
	wantCount(t, r, firstDay, lastDay, api.MaxDates, api.OK)
	wantMove(t, r, firstDay, api.MaxDates, of(731999), api.OK)
	wantMove(t, r, firstDay, api.MaxDates+1, api.Date{}, api.ErrRange)
	wantMove(t, r, lastDay, -api.MaxDates, of(730001), api.OK)
	wantMove(t, r, lastDay, -api.MaxDates-1, api.Date{}, api.ErrRange)
}

func TestP3_10To3_12WrongDays(t *testing.T) {
	r := api.Rule{Days: everyDay}
	right := date(2004, 1, 5)
	for _, d := range noDays() {
		wantOpen(t, r, d, false, api.ErrDate)
		for _, n := range []int{0, 1, -1, api.MaxMove + 1} {
			wantMove(t, r, d, n, api.Date{}, api.ErrDate)
		}
		wantCount(t, r, d, right, 0, api.ErrDate)
		wantCount(t, r, right, d, 0, api.ErrDate)
		wantCount(t, r, d, d, 0, api.ErrDate)
	}
}

func TestP3_11AnyMove(t *testing.T) {
	r := rand.New(rand.NewSource(11))
	for i := range 200 {
		first := starts[i%len(starts)]
		x := randomRule(r, first, 30)
		x.Days[i%7] = true // so that the slow one ends soon
		for range 20 {
			n := min(max(0, first-10+r.Intn(50)), api.MaxDay)
			moves := r.Intn(41) - 20
			want, e := slowMove(x, n, moves)
			wantMove(t, x, of(n), moves, want, e)
		}
	}
}

func TestP3_11FarMoves(t *testing.T) {
	all := api.Rule{Days: everyDay}
	for _, n := range []int{1, 2, 365, api.MaxMove - 1, api.MaxMove} {
		wantMove(t, all, of(n), -n, firstDay, api.OK)
		wantMove(t, all, of(n-1), -n, api.Date{}, api.ErrRange)
		wantMove(t, all, of(api.MaxDay-n), n, lastDay, api.OK)
		wantMove(t, all, of(api.MaxDay-n+1), n, api.Date{}, api.ErrRange)
		wantMove(t, all, date(2004, 1, 1), n, of(number(date(2004, 1, 1))+n), api.OK)
		wantMove(t, all, date(2004, 1, 1), -n, of(number(date(2004, 1, 1))-n), api.OK)
	}
	wantMove(t, api.Rule{Days: workdays}, date(2004, 1, 5), 5000, of(number(date(2004, 1, 5))+7000), api.OK)
	wantMove(t, api.Rule{Days: workdays}, date(2004, 1, 5), -5000, of(number(date(2004, 1, 5))-7000), api.OK)
	wantMove(t, api.Rule{Days: workdays}, date(1000, 1, 6), api.MaxMove, of(number(date(1000, 1, 6))+140000), api.OK)
	for _, n := range append([]int{api.MaxMove + 1, -api.MaxMove - 1}, extremes...) {
		wantMove(t, all, date(2004, 1, 1), n, api.Date{}, api.ErrArg)
		wantMove(t, api.Rule{}, firstDay, n, api.Date{}, api.ErrArg)
	}
}

func TestP3_11ShutForGood(t *testing.T) {
	for _, n := range []int{1, -1, api.MaxMove, -api.MaxMove} {
		wantMove(t, api.Rule{}, date(2004, 1, 1), n, api.Date{}, api.ErrRange)
		wantMove(t, api.Rule{Extra: []api.Date{date(2004, 1, 1)}}, date(2004, 1, 1), n, api.Date{}, api.ErrRange)
	}
	wantMove(t, api.Rule{}, date(2004, 1, 1), 0, api.Date{}, api.ErrShut)
	two := api.Rule{Extra: []api.Date{firstDay, lastDay}}
	wantMove(t, two, firstDay, 1, lastDay, api.OK)
	wantMove(t, two, lastDay, -1, firstDay, api.OK)
	wantMove(t, two, date(2004, 1, 1), 1, lastDay, api.OK)
	wantMove(t, two, date(2004, 1, 1), -1, firstDay, api.OK)
	wantMove(t, two, firstDay, 0, firstDay, api.OK)
	wantMove(t, two, firstDay, -1, api.Date{}, api.ErrRange)
	wantMove(t, two, lastDay, 1, api.Date{}, api.ErrRange)
}

func TestP3_12AnyCount(t *testing.T) {
	r := rand.New(rand.NewSource(12))
	for i := range 300 {
		first := starts[i%len(starts)]
		x := randomRule(r, first, 30)
		from := min(max(0, first-10+r.Intn(30)), api.MaxDay)
		want := 0
		for to := from; to <= api.MaxDay && to < from+40; to++ {
			wantCount(t, x, of(from), of(to), want, api.OK)
			if slowOpen(x, from) && slowOpen(x, to) {
				wantMove(t, x, of(from), want, of(to), api.OK)
			}
			if slowOpen(x, to) {
				want++
			}
		}
		for to := max(0, from-5); to < from; to++ {
			wantCount(t, x, of(from), of(to), 0, api.ErrArg)
		}
	}
}

func TestP3_12FarCounts(t *testing.T) {
	wantCount(t, api.Rule{Days: everyDay}, firstDay, lastDay, api.MaxDay, api.OK)
	wantCount(t, api.Rule{}, firstDay, lastDay, 0, api.OK)
	wantCount(t, api.Rule{Days: everyDay}, firstDay, firstDay, 0, api.OK)
	wantCount(t, api.Rule{Days: everyDay}, lastDay, lastDay, 0, api.OK)
	wantCount(t, api.Rule{Days: everyDay}, lastDay, firstDay, 0, api.ErrArg)
	wantCount(t, api.Rule{Days: workdays}, date(1600, 1, 1), date(2000, 1, 1), 5*146097/7, api.OK)
	wantCount(t, api.Rule{Extra: []api.Date{firstDay, lastDay}}, firstDay, lastDay, 1, api.OK)
	for moves := range 5 {
		from := date(2004, 1, 5)
		to := of(number(from) + 7*20000*moves/4)
		n, _ := cal.Count(api.Rule{Days: workdays}, from, to)
		wantMove(t, api.Rule{Days: workdays}, from, n, to, api.OK)
	}
}

func listed(from, to api.Date, step int) []api.Date {
	return slices.Collect(cal.Each(from, to, step))
}

// slowEach goes by numbers; steps are small.
func slowEach(from, to api.Date, step int) []api.Date {
	var l []api.Date
	for n := number(from); n >= 0 && n <= api.MaxDay && (step > 0 && n <= number(to) || step < 0 && n >= number(to)); n += step {
		l = append(l, of(n))
	}
	return l
}

func wantEach(t *testing.T, from, to api.Date, step int, want []api.Date) {
	t.Helper()
	if got := listed(from, to, step); !slices.Equal(got, want) {
		t.Errorf("Each(%v, %v, %d): %d days %.300v; want %d days %.300v", from, to, step, len(got), got, len(want), want)
	}
}

func TestP3_13AnyDays(t *testing.T) {
	for _, first := range starts {
		for from := max(0, first-3); from <= first+20 && from <= api.MaxDay; from++ {
			for to := max(0, from-20); to <= from+20 && to <= api.MaxDay; to++ {
				for _, step := range []int{1, 2, 3, 7, 19, 20, 21, 366, -1, -2, -3, -7, -19, -20, -21, -366} {
					wantEach(t, of(from), of(to), step, slowEach(of(from), of(to), step))
				}
			}
		}
	}
}

func TestP3_13AllDays(t *testing.T) {
	var all []api.Date
	for _, d := range allDays {
		all = append(all, d)
	}
	wantEach(t, firstDay, lastDay, 1, all)
	slices.Reverse(all)
	wantEach(t, lastDay, firstDay, -1, all)
}

func TestP3_13FarSteps(t *testing.T) {
	middle := date(2004, 2, 29)
	for _, step := range append([]int{api.MaxDay + 1, api.MaxDay + 2, -api.MaxDay - 1, -api.MaxDay - 2}, extremes...) {
		far, near := lastDay, firstDay
		if step < 0 {
			far, near = firstDay, lastDay
		}
		wantEach(t, near, far, step, []api.Date{near})
		wantEach(t, middle, far, step, []api.Date{middle})
		wantEach(t, far, far, step, []api.Date{far})
		wantEach(t, middle, near, step, nil)
	}
	wantEach(t, firstDay, lastDay, api.MaxDay, []api.Date{firstDay, lastDay})
	wantEach(t, lastDay, firstDay, -api.MaxDay, []api.Date{lastDay, firstDay})
	wantEach(t, firstDay, date(9999, 12, 30), api.MaxDay, []api.Date{firstDay})
	wantEach(t, lastDay, date(0, 1, 2), -api.MaxDay, []api.Date{lastDay})
}

func TestP3_13Nothing(t *testing.T) {
	right := date(2004, 2, 29)
	for _, step := range append([]int{0, 1, -1, 7}, extremes...) {
		for _, d := range noDays() {
			wantEach(t, d, right, step, nil)
			wantEach(t, right, d, step, nil)
			wantEach(t, d, d, step, nil)
		}
	}
	wantEach(t, right, right, 0, nil)
	wantEach(t, firstDay, lastDay, 0, nil)
	wantEach(t, right, date(2004, 2, 28), 1, nil)
	wantEach(t, right, date(2004, 3, 1), -1, nil)
}

func TestP3_13LeftAtAnyTimeAndGoneOverAgain(t *testing.T) {
	from, to := date(2004, 2, 25), date(2004, 3, 5)
	for _, each := range []func(func(api.Date) bool){cal.Each(from, to, 1), cal.Each(to, from, -1), cal.Each(from, to, 3)} {
		want := slices.Collect(each)
		for most := 1; most <= len(want); most++ {
			var got []api.Date
			each(func(d api.Date) bool {
				got = append(got, d)
				return len(got) < most
			})
			if !slices.Equal(got, want[:most]) {
				t.Errorf("left behind %d: %v", most, got)
			}
		}
		if got := slices.Collect(each); !slices.Equal(got, want) {
			t.Errorf("gone over again: %v", got)
		}
	}
}

func TestP3_13Nested(t *testing.T) {
	each := cal.Each(date(2004, 2, 28), date(2004, 3, 1), 1)
	var got []int
	for a := range each {
		for b := range each {
			got = append(got, 100*a.Day+b.Day)
		}
	}
	if want := []int{2828, 2829, 2801, 2928, 2929, 2901, 128, 129, 101}; !slices.Equal(got, want) {
		t.Errorf("nested: %v", got)
	}
}
