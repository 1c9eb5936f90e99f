package gtin_test

import (
	"fmt"
	"math"
	"strings"
	"testing"

	"larder/api"
	"larder/gtin"
)

func wantFind(t *testing.T, l []api.Element, ai, want string, wantOk bool) {
	t.Helper()
	if v, ok := gtin.Find(l, ai); v != want || ok != wantOk {
		t.Errorf("Find(%v, %q): %q, %v; want %q, %v", l, ai, v, ok, want, wantOk)
	}
}

func TestP2_11FindTellsTheFirst(t *testing.T) {
	l := []api.Element{{Ai: "10", Value: "A"}, {Ai: "", Value: "none"}, {Ai: "10", Value: "B"}, {Ai: "05", Value: "no Ai"}, {Ai: "20", Value: ""}}
	wantFind(t, l, "10", "A", true)
	wantFind(t, l, "", "none", true)
	wantFind(t, l, "05", "no Ai", true)
	wantFind(t, l, "20", "", true)
	wantFind(t, l, "1", "", false)
	wantFind(t, l, "100", "", false)
	wantFind(t, nil, "10", "", false)
	wantFind(t, []api.Element{}, "", "", false)
}

func wantAmount(t *testing.T, ai, value string, wantN, wantDecimals int, wantOk bool) {
	t.Helper()
	if n, d, ok := gtin.Amount(api.Element{Ai: ai, Value: value}); n != wantN || d != wantDecimals || ok != wantOk {
		t.Errorf("Amount(%s, %.30q): %d, %d, %v; want %d, %d, %v", ai, value, n, d, ok, wantN, wantDecimals, wantOk)
	}
}

func TestP2_12Amounts(t *testing.T) {
	for d := range 6 {
		ai := fmt.Sprintf("310%d", d)
		wantAmount(t, ai, "001250", 1250, d, true)
		wantAmount(t, ai, "000000", 0, d, true)
		wantAmount(t, ai, "999999", 999999, d, true)
	}
	for d := range 4 {
		ai := fmt.Sprintf("392%d", d)
		wantAmount(t, ai, "0", 0, d, true)
		wantAmount(t, ai, "7", 7, d, true)
		wantAmount(t, ai, "0012", 12, d, true)
		wantAmount(t, ai, "999999999999999", 999999999999999, d, true)
		wantAmount(t, ai, "000000000000001", 1, d, true)
	}
}

func TestP2_12WhatIsNoAmount(t *testing.T) {
	for _, value := range []string{"", "00125", "0012500", "00125x", " 01250", "-01250", strings.Repeat("1", 100000)} {
		wantAmount(t, "3102", value, 0, 0, false)
	}
	for _, value := range []string{"", "1000000000000000", "0000000000000000", "12x", "-1", "1.5", strings.Repeat("1", 100000)} {
		wantAmount(t, "3921", value, 0, 0, false)
	}
	for _, x := range table() {
		if x.what != "amount" {
			wantAmount(t, x.ai, "000000", 0, 0, false)
		}
	}
	for _, ai := range []string{"", "310", "3106", "3109", "3924", "31020", "392", "x"} {
		wantAmount(t, ai, "001250", 0, 0, false)
	}
}

func wantDay(t *testing.T, ai, value string, now, wantY, wantM, wantD int, wantOk bool) {
	t.Helper()
	if y, m, d, ok := gtin.Day(api.Element{Ai: ai, Value: value}, now); y != wantY || m != wantM || d != wantD || ok != wantOk {
		t.Errorf("Day(%s, %.30q in %d): %d, %d, %d, %v; want %d, %d, %d, %v", ai, value, now, y, m, d, ok, wantY, wantM, wantD, wantOk)
	}
}

func TestP2_13TheYearIsNear(t *testing.T) {
	nows := []int{100, 101, 148, 149, 150, 151, 199, 200, 1949, 1950, 1999, 2000, 2026, 2049, 2050, 2051, 2099, 9899, 9900}
	for _, now := range nows {
		for year := now - 49; year <= now+50; year++ {
			wantDay(t, "17", fmt.Sprintf("%02d1231", year%100), now, year, 12, 31, true)
		}
	}
}

func TestP2_13DaysOfAllKinds(t *testing.T) {
	for _, ai := range []string{"11", "13", "15", "17"} {
		wantDay(t, ai, "250100", 2026, 2025, 1, 0, true)
		wantDay(t, ai, "240229", 2026, 2024, 2, 29, true)
		wantDay(t, ai, "000229", 2100, 2100, 2, 29, true) // a label's 00 has a 29th of February, whatever its century
		wantDay(t, ai, "230229", 2026, 0, 0, 0, false)
		wantDay(t, ai, "251301", 2026, 0, 0, 0, false)
		wantDay(t, ai, "250001", 2026, 0, 0, 0, false)
		wantDay(t, ai, "250132", 2026, 0, 0, 0, false)
		for _, value := range []string{"", "25010", "2501011", "25010x", strings.Repeat("1", 100000)} {
			wantDay(t, ai, value, 2026, 0, 0, 0, false)
		}
		for _, now := range []int{99, 9901, 0, -1, -2026, math.MinInt, math.MaxInt} {
			wantDay(t, ai, "250101", now, 0, 0, 0, false)
		}
	}
	for _, x := range table() {
		if x.what != "day" {
			wantDay(t, x.ai, "250101", 2026, 0, 0, 0, false)
		}
	}
	for _, ai := range []string{"", "1", "12", "117"} {
		wantDay(t, ai, "250101", 2026, 0, 0, 0, false)
	}
}
