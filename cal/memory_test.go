package cal_test

import (
	"slices"
	"testing"
	"unsafe"

	"larder/api"
	"larder/cal"
)

// Rule R4: what is handed in is neither changed, spare room included, nor kept.

// watched is a rule with spare room behind its lists, and a copy of all of that.
type watched struct {
	rule        api.Rule
	shut, extra []api.Date
}

func roomy(l []api.Date) []api.Date {
	given := append(make([]api.Date, 0, len(l)+8), l...)
	room := given[:cap(given)]
	for i := len(l); i < len(room); i++ {
		room[i] = date(1111, 11, 11)
	}
	return given
}

func watch(r api.Rule) watched {
	r.Shut, r.Extra = roomy(r.Shut), roomy(r.Extra)
	return watched{r, slices.Clone(r.Shut[:cap(r.Shut)]), slices.Clone(r.Extra[:cap(r.Extra)])}
}

func (w watched) check(t *testing.T, name string) {
	t.Helper()
	if !slices.Equal(w.rule.Shut[:cap(w.rule.Shut)], w.shut) || !slices.Equal(w.rule.Extra[:cap(w.rule.Extra)], w.extra) {
		t.Errorf("%s: what was handed in has changed", name)
	}
}

func TestR4RulesAreNotChanged(t *testing.T) {
	monday := date(2004, 1, 5)
	for _, r := range []api.Rule{
		{},
		{Days: workdays, Shut: manyDates(731950, 20), Extra: manyDates(731951, 20)},
		{Days: workdays, Shut: []api.Date{monday, date(2004, 1, 7)}},
		{Days: everyDay, Extra: []api.Date{monday, date(2004, 1, 2)}},
		{Days: everyDay, Shut: []api.Date{{}, monday}},
	} {
		w := watch(r)
		cal.Open(w.rule, monday)
		w.check(t, "Open")
		for _, n := range []int{-30, -1, 0, 1, 30} {
			cal.Move(w.rule, monday, n)
			w.check(t, "Move")
		}
		cal.Count(w.rule, monday, date(2005, 1, 1))
		w.check(t, "Count")
	}
}

func TestR4RulesAreNotKept(t *testing.T) {
	monday, tuesday := date(2004, 1, 5), date(2004, 1, 6)
	r := api.Rule{Days: everyDay, Shut: []api.Date{monday}}
	wantOpen(t, r, monday, false, api.OK)
	r.Shut[0] = tuesday
	wantOpen(t, r, monday, true, api.OK)
	wantOpen(t, r, tuesday, false, api.OK)
	wantMove(t, r, monday, 1, date(2004, 1, 7), api.OK)
	wantCount(t, r, monday, date(2004, 1, 8), 2, api.OK)
}

// TestR4TextsAreNotKept writes over the bytes of a text, as no holder of one should.
func TestR4TextsAreNotKept(t *testing.T) {
	bytes := []byte("2004-02-29T12:00:00Z")
	text := unsafe.String(unsafe.SliceData(bytes), len(bytes))
	noon, _, _ := cal.ParseInstant(text)
	copy(bytes, "1970-01-01T00:00:00Z")
	wantInstant(t, text, epoch, api.OK, 0)
	if want := instant("2004-02-29T12Z"); noon != want {
		t.Errorf("%d, want %d", noon, want)
	}
}

func TestR5TheSameAgain(t *testing.T) {
	r := api.Rule{Days: workdays, Shut: manyDates(731950, 20)}
	for range 3 {
		wantDate(t, "2004-060", date(2004, 2, 29), api.OK, 0)
		wantPrinted(t, date(2004, 2, 29), api.DateWeek, "2004-W09-7", api.OK)
		wantSpan(t, "P3W", api.Span{Weeks: 3}, api.OK, 0)
		wantOpen(t, r, of(731950), false, api.OK)
	}
}
