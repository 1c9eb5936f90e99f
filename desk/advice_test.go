package desk_test

import (
	"errors"
	"fmt"
	"slices"
	"strings"
	"testing"

	"larder/api"
	"larder/desk"
	"larder/edi"
)

// wholeAdvice answers the advice of a whole store, as it was read from its interchange.
func wholeAdvice(t *testing.T, d *desk.Desk, number string) (api.Interchange, api.Advice) {
	t.Helper()
	text, err := d.Advice(number)
	if err != nil {
		t.Fatalf("Advice(%q): %v", number, err)
	}
	i := parsed(t, text)
	if len(i.Groups) != 1 || len(i.Groups[0].Sets) != 1 {
		t.Fatalf("%s", show(i))
	}
	g := i.Groups[0]
	if i.From != "STORE" || i.To != "STORE" || i.Test || g.Kind != "IB" || g.From != "STORE" || g.To != "STORE" || g.Control != i.Control || g.Time != i.Time || g.Date[2:] != i.Date || g.Sets[0].Control != "0001" {
		t.Errorf("the envelope: %s", show(i))
	}
	a, err := edi.ReadAdvice(g.Sets[0])
	if err != nil {
		t.Fatalf("ReadAdvice: %v", err)
	}
	want(t, "number", a.Number, number)
	want(t, "day", a.Date, g.Date)
	return i, a
}

// TestP18_6_Whole: a line for each level, in order, with what is there and what of it is free.
func TestP18_6_Whole(t *testing.T) {
	d := stocked(t, plain())
	do(t, d, "@1 hold h 60 "+goodA+" 4\nrun\n@1 tick t 2026-11-18T17:45:10Z\nrun\n@1 hold i 60 "+goodB+" 5\nrun\n@2 restock s "+goodB+" 1\n")
	was := looksOf(d)
	i, a := wholeAdvice(t, d, "S-1")
	if i.Control != 1 || i.Date != "261118" || i.Time != "1745" || a.Date != "20261118" {
		t.Errorf("%s", show(i))
	}
	if !slices.Equal(a.Lines, []api.AdviceLine{{Code: goodA, OnHand: 9, Free: 9}, {Code: goodB, OnHand: 5, Free: 0}}) {
		t.Errorf("%s", show(a))
	}
	wantSame(t, "an advice", d, was) // the store is not run
	for n := 2; n < 9; n++ {
		i, _ = wholeAdvice(t, d, strings.Repeat("9", n)+"-A")
		want(t, "control", i.Control, n)
	}
}

// TestP18_6_Codes: codes that are no trade codes, or of which there is more than an advice can tell, are left out.
func TestP18_6_Codes(t *testing.T) {
	codes := []string{"000000000000000000", "036000291452", "10036000291459", "106141412345678908", "106141412345678909", "1234567", goodA, "12345671", "4006381333931", "4006381333932", goodB, "bolt", "zz"}
	if !slices.IsSorted(codes) {
		t.Fatal("codes out of order")
	}
	d := opened(t, roomy(1, codes...))
	do(t, d, "@1 restock r 036000291452 1 106141412345678908 2 "+goodA+" 1000000000000000 4006381333931 1000000000000001 bolt 5\nrun\n@1 hold h 60 "+goodA+" 1 4006381333931 2\nrun\n")
	_, a := wholeAdvice(t, d, "S")
	if !slices.Equal(a.Lines, []api.AdviceLine{{Code: "036000291452", OnHand: 1, Free: 1}, {Code: "10036000291459"}, {Code: goodA, OnHand: 1000000000000000, Free: 999999999999999}, {Code: goodB}}) {
		t.Errorf("%s", show(a))
	}
	do(t, d, "@1 writeoff w 4006381333931 1\nrun\n")
	if _, a = wholeAdvice(t, d, "S"); len(a.Lines) != 5 || a.Lines[3] != (api.AdviceLine{Code: "4006381333931", OnHand: 1000000000000000, Free: 999999999999998}) {
		t.Errorf("%s", show(a))
	}
}

// TestP18_6_Many: the first MaxDocLines of more levels; those that are left out do not count.
func TestP18_6_Many(t *testing.T) {
	for _, n := range []int{199, 200, 201, 300} {
		codes := append(trades(n), "zz")
		codes = append([]string{"0"}, codes...)
		d := opened(t, roomy(1, codes...))
		do(t, d, "@1 restock r "+trade(0)+" 1000000000000001 "+trade(1)+" 7\nrun\n")
		_, a := wholeAdvice(t, d, "S")
		want(t, fmt.Sprintf("lines of %d", n), len(a.Lines), min(n-1, api.MaxDocLines))
		want(t, "the first", a.Lines[0], api.AdviceLine{Code: trade(1), OnHand: 7, Free: 7})
		want(t, "the last", a.Lines[len(a.Lines)-1].Code, trade(len(a.Lines)))
	}
}

// TestP18_6_Faults: numbers that edi refuses, and stores without a line: edi's error, and the next number stays.
func TestP18_6_Faults(t *testing.T) {
	for _, codes := range [][]string{{goodA}, {"bolt", "nut"}, {"106141412345678908"}} {
		d := opened(t, roomy(1, codes...))
		was := looksOf(d)
		for _, number := range []string{"", "s", "S 1", "S*1", "S~", strings.Repeat("9", 23), "\x00", "S-1"} {
			if number == "S-1" && codes[0] == goodA {
				continue
			}
			text, err := d.Advice(number)
			var l []api.AdviceLine
			if codes[0] == goodA {
				l = append(l, api.AdviceLine{Code: goodA})
			}
			_, wanted := edi.BuildAdvice(api.Advice{Number: number, Date: "19700101", Lines: l}, "0001")
			if text != "" || err == nil || err.Error() != wanted.Error() || errors.Unwrap(err) != errors.Unwrap(wanted) {
				t.Errorf("Advice(%q) of %v: %q, %v, want %v", number, codes, text, err, wanted)
			}
		}
		wantSame(t, "advices with faults", d, was)
	}
	d := opened(t, plain())
	d.Advice("")
	d.Advice("x")
	i, _ := wholeAdvice(t, d, strings.Repeat("Z", 22))
	want(t, "control", i.Control, 1)
	i, _ = wholeAdvice(t, d, "-")
	want(t, "control", i.Control, 2)
}

// TestP18_6_Midst: what stands in the midst of an effect is told as it stands.
func TestP18_6_Midst(t *testing.T) {
	d := stocked(t, plain())
	do(t, d, "@1 hold h 60 "+goodA+" 4 "+goodB+" 5\nrun\n@1 commit c h\n")
	seen := map[string]bool{}
	for range 60 {
		do(t, d, "pick 1 1\n")
		_, a := wholeAdvice(t, d, "S")
		seen[fmt.Sprint(a.Lines)] = true
		for i, v := range d.State().Levels {
			want(t, "a line", a.Lines[i], api.AdviceLine{Code: v.Code, OnHand: v.OnHand, Free: v.OnHand - v.Held})
		}
	}
	want(t, "sights", len(seen), 3)
}
