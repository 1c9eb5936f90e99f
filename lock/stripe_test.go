package lock_test

import (
	"math"
	"math/rand"
	"slices"
	"strconv"
	"testing"

	"larder/api"
	"larder/lock"
)

// slowSum makes the sum bit by bit, as chapter 1 says.
func slowSum(s string) uint32 {
	r := ^uint32(0)
	for i := range len(s) {
		r ^= uint32(s[i])
		for range 8 {
			low := r & 1
			r >>= 1
			if low == 1 {
				r ^= 0x82f63b78
			}
		}
	}
	return ^r
}

func someKeys(r *rand.Rand, n int) []string {
	keys := make([]string, n)
	for i := range keys {
		b := make([]byte, r.Intn(12))
		r.Read(b)
		keys[i] = string(b)
	}
	return keys
}

func TestP8_1Stripe(t *testing.T) {
	r := rand.New(rand.NewSource(1))
	keys := append(someKeys(r, 300), "", "a", "\x00", "123456789", "\xff\xfe", "00000012345670", string(make([]byte, 100000)))
	for _, key := range keys {
		for stripes := 1; stripes <= api.MaxStripes; stripes++ {
			if got, want := lock.Stripe(key, stripes), int(uint64(slowSum(key))%uint64(stripes)); got != want {
				t.Fatalf("Stripe(%q, %d): %d, want %d", key, stripes, got, want)
			}
		}
	}
}

// The sum of the nine digits is hex e3069283: it is above 2^31, and no number below 0.
func TestP8_1StripeOfAKnownSum(t *testing.T) {
	for stripes, want := range map[int]int{1: 0, 2: 1, 7: 0xe3069283 % 7, 60: 0xe3069283 % 60, 64: 3} {
		if got := lock.Stripe("123456789", stripes); got != want {
			t.Errorf("%d stripes: %d, want %d", stripes, got, want)
		}
	}
	if got := lock.Stripe("", 64); got != 0 {
		t.Errorf("no bytes: %d", got)
	}
}

func TestP8_1NoSuchStripes(t *testing.T) {
	for _, stripes := range []int{0, -1, -64, api.MaxStripes + 1, math.MinInt, math.MaxInt, 1 << 32, 1<<32 + 1} {
		if got := lock.Stripe("a", stripes); got != -1 {
			t.Errorf("Stripe(a, %d): %d", stripes, got)
		}
		if got := lock.Set([]string{"a", "b"}, stripes); len(got) != 0 {
			t.Errorf("Set(a b, %d): %v", stripes, got)
		}
		if got := lock.Set(nil, stripes); len(got) != 0 {
			t.Errorf("Set of nothing, %d: %v", stripes, got)
		}
	}
}

func slowSet(keys []string, stripes int) []int {
	var l []int
	for _, key := range keys {
		l = append(l, int(uint64(slowSum(key))%uint64(stripes)))
	}
	slices.Sort(l)
	return slices.Compact(l)
}

func TestP8_1Set(t *testing.T) {
	r := rand.New(rand.NewSource(2))
	for i := range 2000 {
		keys := someKeys(r, r.Intn(40))
		stripes := 1 + i%api.MaxStripes
		if got, want := lock.Set(keys, stripes), slowSet(keys, stripes); !slices.Equal(got, want) {
			t.Fatalf("Set(%q, %d): %v, want %v", keys, stripes, got, want)
		}
	}
}

func TestP8_1SetOfFewAndMany(t *testing.T) {
	if got := lock.Set([]string{}, 64); len(got) != 0 {
		t.Errorf("an empty list: %v", got)
	}
	if got := lock.Set([]string{"", "", ""}, 64); !slices.Equal(got, []int{0}) {
		t.Errorf("empty keys: %v", got)
	}
	if got := lock.Set([]string{"a", "b", "c"}, 1); !slices.Equal(got, []int{0}) {
		t.Errorf("one stripe for all: %v", got)
	}
	var keys []string
	for i := range 2000 {
		keys = append(keys, strconv.Itoa(i))
	}
	all := make([]int, api.MaxStripes)
	for i := range all {
		all[i] = i
	}
	if got := lock.Set(keys, api.MaxStripes); !slices.Equal(got, all) {
		t.Errorf("many keys: %v", got)
	}
}

// Two keys of one stripe are that stripe once, and how keys stand in their list has no part.
func TestP8_1KeysThatShareAStripe(t *testing.T) {
	one, two := "", ""
	for i := 0; two == ""; i++ {
		key := strconv.Itoa(i)
		switch {
		case slowSum(key)%64 != 5:
		case one == "":
			one = key
		default:
			two = key
		}
	}
	for _, keys := range [][]string{{one, two}, {two, one}, {one, two, one}} {
		if got := lock.Set(keys, 64); !slices.Equal(got, []int{5}) {
			t.Errorf("Set(%q): %v", keys, got)
		}
	}
	if a, b := lock.Set([]string{"a", "b", "c"}, 64), lock.Set([]string{"c", "a", "b", "a"}, 64); !slices.Equal(a, b) {
		t.Errorf("%v and %v", a, b)
	}
}
