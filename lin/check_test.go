package lin_test

import (
	"testing"

	"larder/api"
	"larder/lin"
)

// TestP16_1_None: no ops are a history.
func TestP16_1_None(t *testing.T) {
	wantCheck(t, "nil", nil, api.OK, 0)
	wantCheck(t, "an empty list", []api.Op{}, api.OK, 0)
}

// among answers a history of three ops in which one stands at a place.
func among(o api.Op, place int) []api.Op {
	ops := []api.Op{held("g", 0, 1), open(h("k"), 2, ever), done(save("s"), 0, ever)}
	ops[place] = o
	return ops
}

// TestP16_1_Moments: the edges of Begin and End, of ops that are answered and that are Open, at each place.
func TestP16_1_Moments(t *testing.T) {
	for _, x := range []struct {
		begin, end int
		e          api.Errno
	}{
		{0, 0, api.OK}, {0, 1, api.OK}, {1, 1, api.OK}, {7, 9, api.OK}, {0, ever, api.OK}, {ever, ever, api.OK}, {ever - 1, ever, api.OK}, {0, ever - 1, api.OK},
		{-1, 0, api.ErrMoment}, {-1, -1, api.ErrMoment}, {-1, 5, api.ErrMoment}, {-2, -1, api.ErrMoment}, {least, least, api.ErrMoment}, {least, 0, api.ErrMoment}, {least, greatest, api.ErrMoment},
		{1, 0, api.ErrMoment}, {5, 4, api.ErrMoment}, {0, -1, api.ErrMoment}, {3, 2, api.ErrMoment}, {ever, ever - 1, api.ErrMoment}, {5, least, api.ErrMoment}, {greatest, least, api.ErrMoment}, {ever, 0, api.ErrMoment},
		{0, ever + 1, api.ErrMoment}, {0, greatest, api.ErrMoment}, {ever, ever + 1, api.ErrMoment}, {ever + 1, ever + 1, api.ErrMoment}, {ever + 1, ever, api.ErrMoment}, {greatest, greatest, api.ErrMoment},
	} {
		for place := range 3 {
			at := place
			if x.e == api.OK {
				at = 0
			}
			wantCheck(t, show(x), among(held("h", x.begin, x.end), place), x.e, at)
			wantCheck(t, "open "+show(x), among(open(h("h"), x.begin, x.end), place), x.e, at)
		}
	}
}

// replies are replies that are zero but for one field, each field in turn.
func replies() map[string]api.Reply {
	return map[string]api.Reply{
		"Id":             {Id: "h"},
		"a short Id":     {Id: "\x00"},
		"Err":            {Err: api.ErrStock},
		"a wrong Err":    {Err: -1},
		"Line":           {Line: 1},
		"a Line below 0": {Line: -1},
		"Levels":         {Levels: []api.Level{{Code: "a", OnHand: 5, Held: 3}}},
		"a zero Level":   {Levels: make([]api.Level, 1)},
		"Now":            {Now: 10},
		"a Now below 0":  {Now: least},
	}
}

// TestP16_1_Answered: an Open op has the zero Reply.
func TestP16_1_Answered(t *testing.T) {
	for name, x := range replies() {
		for place := range 3 {
			for _, end := range []int{4, ever} {
				o := open(h("h"), 4, end)
				o.Reply = x
				wantCheck(t, name, among(o, place), api.ErrAnswered, place)
				o.Open = false
				wantCheck(t, name+", not Open", among(o, place), api.OK, 0)
			}
		}
	}
	o := open(h("h"), 0, ever)
	o.Reply.Levels = []api.Level{}
	wantCheck(t, "an empty list of levels", among(o, 1), api.OK, 0)
	o.Reply.Levels = make([]api.Level, 0, 4)
	wantCheck(t, "an empty list with room", among(o, 1), api.OK, 0)
	wantCheck(t, "the zero Reply, not Open", []api.Op{{}}, api.OK, 0)
	wantCheck(t, "the zero Reply, Open", []api.Op{{Open: true}}, api.OK, 0)
}

// TestP16_1_Many: MaxHistory ops and one more.
func TestP16_1_Many(t *testing.T) {
	wantCheck(t, "4096", make([]api.Op, 4096), api.OK, 0)
	wantCheck(t, "4095", make([]api.Op, 4095), api.OK, 0)
	for _, n := range []int{4097, 4098, 9000} {
		ops := make([]api.Op, n)
		wantCheck(t, "too many", ops, api.ErrMany, 4096)
		ops[0].Begin = -1
		wantCheck(t, "too many, the first wrong too", ops, api.ErrMany, 4096)
		ops[n-1] = api.Op{Open: true, Reply: api.Reply{Id: "x"}}
		wantCheck(t, "too many, two wrong too", ops, api.ErrMany, 4096)
	}
	ops := make([]api.Op, 4096)
	ops[4095].End = -1
	wantCheck(t, "the last is wrong", ops, api.ErrMoment, 4095)
	ops[4094] = api.Op{Open: true, Reply: api.Reply{Id: "x"}}
	wantCheck(t, "the last two are", ops, api.ErrAnswered, 4094)
}

// TestP16_1_First: of several faults the first counts: of one op that of the moments, of several ops that of the first.
func TestP16_1_First(t *testing.T) {
	moment := held("m", 3, 2)
	answered := held("n", 0, 1)
	answered.Open = true
	both := held("b", -1, 1)
	both.Open = true
	good := held("g", 0, 1)
	for name, x := range map[string]struct {
		ops []api.Op
		e   api.Errno
		at  int
	}{
		"both in one":             {[]api.Op{both}, api.ErrMoment, 0},
		"both in one, behind one": {[]api.Op{good, both}, api.ErrMoment, 1},
		"a reply, then a moment":  {[]api.Op{good, answered, moment}, api.ErrAnswered, 1},
		"a moment, then a reply":  {[]api.Op{good, good, moment, answered}, api.ErrMoment, 2},
		"two moments":             {[]api.Op{good, moment, good, both}, api.ErrMoment, 1},
		"two replies":             {[]api.Op{answered, good, answered}, api.ErrAnswered, 0},
		"a reply, then both":      {[]api.Op{answered, both}, api.ErrAnswered, 0},
	} {
		wantCheck(t, name, x.ops, x.e, x.at)
	}
}

// TestP16_1_NotAsked: what the requests and replies are is not asked.
func TestP16_1_NotAsked(t *testing.T) {
	for _, r := range []api.Request{{}, {Id: "\x00", Kind: -1, Ttl: least, Now: greatest}, {Id: "x", Kind: 10, Lines: make([]api.Line, 100)}, hold("", 0), read("h", "")} {
		wantCheck(t, show(r), []api.Op{told(r, api.Reply{Id: "other", Err: -9, Line: -1, Levels: make([]api.Level, 9), Now: least}, 0, 0), open(r, 0, 0)}, api.OK, 0)
	}
}

// TestP16_2_Ahead: the end of one lies below the beginning of the other; those that touch are side by side.
func TestP16_2_Ahead(t *testing.T) {
	moments := []int{least, -1, 0, 1, 2, 3, ever - 1, ever, ever + 1, greatest}
	for _, end := range moments {
		for _, begin := range moments {
			for _, a := range []api.Op{held("h", 0, end), open(h("h"), 5, end), {Begin: end, End: end}} {
				for _, b := range []api.Op{held("i", begin, 9), open(h("i"), begin, ever), {Begin: begin, End: least}} {
					want(t, show([]api.Op{a, b}), lin.Ahead(a, b), end < begin)
				}
			}
		}
	}
	want(t, "one behind the other", lin.Ahead(held("h", 0, 1), held("i", 2, 3)), true)
	want(t, "the other way round", lin.Ahead(held("i", 2, 3), held("h", 0, 1)), false)
	want(t, "two that touch", lin.Ahead(held("h", 0, 2), held("i", 2, 3)), false)
	want(t, "one and itself", lin.Ahead(held("h", 2, 2), held("h", 2, 2)), false)
}
